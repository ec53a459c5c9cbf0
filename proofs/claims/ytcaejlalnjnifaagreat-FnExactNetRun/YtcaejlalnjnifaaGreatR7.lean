import Derived.Test.YtcaejlalnjnifaaGreatR4
import Derived.Test.YtcaejlalnjnifaaGreatR5
import Derived.Deep.AppendSrc
set_option maxHeartbeats 8000000
set_option maxRecDepth 2000
open Go.Value renaming slice->V,pointer->Af,int->Ao
open Option renaming none->I,some->M
open Go.RowKit renaming Hid->H,Below->Ab
open Go.Addr renaming mk->Q
open Go renaming undef->O,World->Ad,Value->Aj,Calls->Ak,Addr->Al,maxLen->Au
open Go.Obj renaming cells->J
open Go.Ending renaming returned->Ae
open Go.IntKind renaming i64->Ar
open Bool renaming false->Av,true->Aw
open Go.Proofs.Tryz
open Go.ChangeShapes Go.WideShapes Go.ChangeAt Go.RowKit
namespace Go.Proofs.YtcaejlalnjnifaaGreat
section
open Gs (U rolI V4 mx inn key all4 fin)
theorem jPp (g L n:Nat) (v:V4) (w:Ad) (h:Row w g 269 (H6 L n v)) (hn:n<=4194304) (hL:L<18446744073709551616):Ak prog 247 #[Af g] w fun e w'=>e=Ae (Ao .u64 (U (all4 (fin (inn v (BitVec.ofNat 64 L ||| (BitVec.ofNat 64 n <<< 56)))))))/\Ab g w w':=by
 have g0:=Gs.U_xor;have f0:∀ x:BitVec 64,bits .xor .u64 (U x) 255=U (x ^^^ 255#64):=fun x=>Gs.U_xor x 255#64
 have K0:H (Row w g 269 (H6 L n v)):=h;clear h;go_enter func247,ntmps247
 go_wp2_with fail
 refine Ax (jMo g L n v w K0 hn hL) ?_;rintro e w1 ⟨rfl,h1,c0⟩;have K1:H (Row w1 g 269 (H6 L n v)):=h1;clear h1;go_wp2_with fail
 refine Ax (jIy g L n v _ w1 K1) ?_;rintro e w2 ⟨rfl,h2,d0⟩;obtain⟨a,b,c,d,HU⟩:∃ a b c d,H (inn v (BitVec.ofNat 64 L ||| (BitVec.ofNat 64 n <<< 56))=⟨a,b,c,d⟩):=⟨_,_,_,_,rfl⟩;rw[HU.out] at h2;have K2:H (Row w2 g 269 (H6 L n ⟨a,b,c,d⟩)):=h2;have B2:H (Ab g w w2):=c0.trans d0;clear h2 c0 d0;have c4:=K2.cell 4;have f4:=K2.free 4;simp at c4;go_wp2_with fail
 go_still_tail 9,Tryz.mixed
 rw[qP];obtain⟨w3,a0⟩:=nmH w2.drew;rw[<-a0.out];have K3:H (Row w3 g 269 (H6 L n ⟨a,b,c,d⟩)):=by show Row _ _ _ _;rw[a0.out];exact K2.drew
 have B3:H (Ab g w w3):=by show Ab _ _ _;rw[a0.out];exact B2.drew
 clear c4 f4;have c4:=K3.cell 4;have f4:=K3.free 4;simp at c4;obtain⟨w4,b0⟩:=nmH (w3.setCell (Q g 4 I) (Ao .u64 (U (c ^^^ 255#64))));have K4:H (Row w4 g 269 (H6 L n ⟨a,b,c ^^^ 255#64,d⟩)):=by show Row _ _ _ _;rw[b0.out];exact K3.set 4 _
 have B4:H (Ab g w w4):=by show Ab _ _ _;rw[b0.out];exact Bn B3 (by simp) _
 go_wp2_with fail
 rw[<-b0.out];clear c4 f4;refine Ax (jDj g L n 4 ⟨a,b,c ^^^ 255#64,d⟩ w4 K4 (by omega)) ?_;rintro e w5 ⟨rfl,h5,e0⟩;have HF:H (fin ⟨a,b,c,d⟩=mxs ⟨a,b,c ^^^ 255#64,d⟩ 4):=rfl;generalize mxs ⟨a,b,c ^^^ 255#64,d⟩ 4=m at h5 HF;obtain⟨p,q,s,t⟩:=m;have K5:H (Row w5 g 269 (H6 L n ⟨p,q,s,t⟩)):=h5;have B5:H (Ab g w w5):=B4.trans e0;clear h5 e0;obtain⟨c2,c3,c4,c5⟩:=K5.c4 2 3 4 5;simp at c2 c3 c4 c5;go_wp2_with fail
 go_quiet (fail)
 go_wp2
 go_ret
 exact⟨by rw[HU.out,HF.out];rfl,xW B5 _⟩
theorem jGu (a b:BitVec 64) (s:BA) (w:Ad) (hs:s.size<=4194304):CB 232 #[Ao .u64 (U a),Ao .u64 (U b),s] w (Ao .u64 (U (Gs.sip (tat s) a b s.size))):=by
 obtain⟨n,hn⟩:∃ n,s.size=n:=⟨_,rfl⟩;obtain⟨g,HG⟩:=nmH w.1.size;obtain⟨w1,c0⟩:=nmH (w.alloc (J (H6 0 0 (key a b)) 269));have h1:=(jZ c0 HG).out;have b1:Ab g w w1:=by rw[c0.out,HG.out];exact(Az _ _).alloc (Ay _) _
 go_enter func232,ntmps232
 go_wp2_with fail
 refine(jJt a b w).mono ?_;rintro e w' ⟨rfl,hw⟩;rw[<-c0.out] at hw;obtain rfl:=hw.symm;rw[<-HG.out];go_wp2
 go_loopw [14] (fun i wr=>∃ k:Nat,k<=n/\i=Ao Ar k/\Row wr g 269 (H6 (Gs.le (tat s) (8*(k / 8)) (k % 8)) k (Gs.blk (tat s) (key a b) (k / 8)))/\Ab g w wr) (fun i _=>n-(intOf i).toNat)
 case atStart=>exact⟨0,Bi _,rfl,h1,b1⟩
 case round=>
  obtain⟨k,hk,rfl,a0,hb⟩:=hrel;clear h1 b1;by_cases hlt:k<n
  .have k0:(k:Int)<(n:Int):=by omega
   have j0:k<s.size:=by omega
   have K:H _:=a0;clear a0;have HX:=hd ((XZ s k j0).symm);have f0:=Gs.le_lt64 (JB s) (8*(k / 8)) (k % 8) (by omega);have HO:H (Gs.le (tat s) (8*(k / 8)) (k % 8) ||| s[k].toNat*2 ^ (8*(k % 8))=Gs.le (tat s) (8*(k / 8)) (k % 8+1)):=by
    show _=_;rw[HX.out,<-Gs.le_or (JB s),show 8*(k / 8)+k % 8=k by omega]
   go_wp2_with fail
   go_still_tail 6,Tryz.mixed
   rw[qP];obtain⟨w2,d0⟩:=nmH wr.drew;rw[<-d0.out];have K2:=Row.drew K.out;rw[<-d0.out] at K2;have B2:Ab g w w2:=by rw[d0.out];exact hb.drew
   have KP:H _:=jQe g _ k s[k].toNat _ w2 K2 (by omega) f0 (jCi _);clear K2 f0;by_cases h8:(k+1) % 8=0
   .have e1:(k+1) / 8=k / 8+1:=by omega
    have e2:=h8;have e3:k % 8+1=8:=by omega
    have HR:H (H6 (Gs.le (tat s) (8*((k+1) / 8)) ((k+1) % 8)) (k+1) (Gs.blk (tat s) (key a b) ((k+1) / 8))=H6 0 (k+1) (inn (Gs.blk (tat s) (key a b) (k / 8)) (BitVec.ofNat 64 (Gs.le (tat s) (8*(k / 8)) 8)))):=by show _=_;rw[e1,e2];rfl
    have hU:=Gs.U_nat (Gs.le_lt64 (JB s) (8*(k / 8)) 8 (by omega));have KU:H _:=hU;rw[HO.out,e3] at KP;clear e1 e2 e3 HO hU;go_wp2_with fail
    refine Ax KP.out ?_;rintro e w3 ⟨rfl,h3,e0⟩;have K3:H _:=h3;clear h3;have b0:decide ((k+1) % 8=0)=Aw:=by simpa using h8
    rw[b0];go_wp2_with fail
    refine Ax (jNu g _ _ _ w3 K3.out) ?_;rintro e w4 ⟨rfl,h4,h0⟩;have K4:H _:=h4;clear h4;go_wp2_with fail
    rw[KU.out];refine Ax (jIy g _ _ _ _ w4 K4.out) ?_;rintro e w5 ⟨rfl,h5,i0⟩;rw[<-HR.out] at h5;have K5:H _:=h5;have B5:=hd (((B2.trans e0).trans h0).trans i0);clear h5;go_wp2
    go_roundw
    case rel=>exact⟨k+1,by omega,by go_num,K5.out,B5.out⟩
    case measure=>simp[intOf];omega
   .have e1:(k+1) / 8=k / 8:=by omega
    have e2:(k+1) % 8=k % 8+1:=by omega
    have HR:H (H6 (Gs.le (tat s) (8*((k+1) / 8)) ((k+1) % 8)) (k+1) (Gs.blk (tat s) (key a b) ((k+1) / 8))=H6 (Gs.le (tat s) (8*(k / 8)) (k % 8+1)) (k+1) (Gs.blk (tat s) (key a b) (k / 8))):=by show _=_;rw[e1,e2]
    rw[HO.out] at KP;clear e1 e2 HO;go_wp2_with fail
    refine Ax KP.out ?_;rintro e w3 ⟨rfl,h3,e0⟩;rw[<-HR.out] at h3;have K3:H _:=h3;clear h3;have B3:=hd (B2.trans e0);have b0:decide ((k+1) % 8=0)=Av:=by simpa using h8
    rw[b0];go_wp2
    go_roundw
    case rel=>exact⟨k+1,by omega,by go_num,K3.out,B3.out⟩
    case measure=>simp[intOf];omega
  .obtain rfl:k=n:=by omega
   have K:H _:=a0;clear a0;go_wp2_with fail
   have HE:=jPp g _ _ _ wr K.out (by omega) (Gs.le_lt64 (JB s) _ _ (by omega));rw[Gs.shl56 k] at HE;refine Ax HE ?_;clear HE;rintro e w2 ⟨rfl,g0⟩;go_wp2
   go_ret
   refine⟨?_,?_⟩
   .rw[hn];rfl
   .rw[<-HG.out];exact hb.trans g0
end
theorem jM1 {w:Ad} {B E g n cap:Nat} {xs:List Aj} (h:w.ownsRow B E 1 (V g n cap) n xs):n<=cap:=by
 rcases h.2 with h'|⟨g',a0,b0,e,_,_,hn,_⟩
 .cases h'.1
 .cases e;exact hn
theorem jEo (sz:Nat) (c:Nat->Nat->Aj) (n:Nat) (vs:List Aj) (hz:0<sz) (hl:vs.length=sz):cL sz c n++vs=cL sz (fun i q=>if i=n then vs.getD q O else c i q) (n+1):=by
 apply Co
 intro j;by_cases hj:j<(n+1)*sz
 .have hd:j / sz<n+1:=(Db hz).2 hj;have hm:j % sz<sz:=E5 _ hz;have h2:=jU sz (fun i q=>if i=n then vs.getD q O else c i q) (n+1) (j / sz) (j % sz) hd hm;rw[vB] at h2;rw[h2];by_cases hn:j<n*sz
  .have a0:j / sz<n:=(Db hz).2 hn;have h1:=jU sz c n (j / sz) (j % sz) a0 hm;rw[vB] at h1;rw[Ea (by rw[qB];exact hn),h1,A5 (by omega)]
  .have a0:j / sz=n:=by
    have:n<=j / sz:=(Nat.le_div_iff_mul_le hz).2 (by omega)
    omega
   have he:=@vB sz j;rw[a0] at he;rw[Ds (by rw[qB];omega),qB,A6 a0];rw[show j-n*sz=j % sz by omega,Bj (by omega),Bx,Bj (by omega)];rfl
 .have e:(n+1)*sz=n*sz+sz:=F0 n sz;rw[Be (by rw[Fb,qB];omega),Be (by rw[qB];omega)]
theorem jAh {w w':Ad} {B t sz n g cap cp:Nat} {a:OA} {c:Nat->Nat->Aj} {G:Nat->Nat->Nat->Prop} {f:Nat->Nat->Dt} {F F':Nat->Prop} {vs:List Aj} {d:Nat->Dt} {H:Nat->Nat->Prop} (hz:0<sz) (hs:Sep a n sz G F) (hr:∀ i q,i<n->q<sz->Ow w B (f i q) (c i q) (G i q)) (hl:vs.length=sz) (hv:∀ q,q<sz->Ow w B (d q) (vs.getD q O) (H q)) (hH:∀ q x,q<sz->H q x->¬ F x) (hE:∀ q q' x,q<sz->q'<sz->H q x->H q' x->q=q') (h2:w'.ownsRow B t sz (V g (n+1) cap) (n+1) (cL sz c n++vs)) (h3:w.grownBy w' (V a n cp).ownBlock) (h4:(V a n cp).ownBlock=M g\/g=w.1.size) (hF:∀ x,F x->x<w.1.size->F' x) (e0:∀ q x,q<sz->H q x->x<w.1.size->F' x) (hg:F' g):Ow w' B (.lst t sz (n+1) (fun i=>if i=n then d else f i)) (V g (n+1) cap) F':=by
 rw[jEo sz c n vs hz hl] at h2;have d0:∀ x,x<w.1.size->(∀ y,a=M y->x≠y.block)->w'.1[x]?=w.1[x]?:=fun x hx hy=>h3.block x hx fun e=>by
  cases a with
  | none=>cases e
  | some y=>exact hy y rfl (by injection e)
 have f0:∀ x,x<w.1.size->g=x->∃ y,a=M y/\y.block=x:=fun x hx e=>by
  rcases h4 with h4|h4
  .cases a with
   | none=>cases h4
   | some y=>exact⟨y,rfl,by injection h4 with h4;omega⟩
  .omega
 refine⟨_,cap,_,fun i q x=>(if i=n then H q x else G i q x)/\B<=x/\x<w.1.size,rfl,h2,⟨fun x hx=>by cases hx;exact hg,fun i q x hi hq hx=>?_,fun i q x hi hq ex hx=>?_,fun i q i' q' x hi hq g0 c0 hx a0=>?_⟩,fun i q hi hq=>?_⟩
 .obtain⟨hx,_,b0⟩:=hx;by_cases e:i=n
  .rw[A6 e] at hx;exact e0 q x hq hx b0
  .rw[A5 e] at hx;exact hF x (hs.sub i q x (by omega) hq hx) b0
 .cases ex;obtain⟨hx,_,b0⟩:=hx;obtain⟨y,ey,eb⟩:=f0 g b0 rfl;by_cases e:i=n
  .rw[A6 e] at hx;exact hH q g hq hx (eb▸hs.head y ey)
  .rw[A5 e] at hx;exact hs.apart i q y (by omega) hq ey (eb▸hx)
 .obtain⟨hx,_⟩:=hx;obtain⟨a0,_⟩:=a0;by_cases e:i=n <;> by_cases e':i'=n
  .rw[A6 e] at hx;rw[A6 e'] at a0;exact⟨e.trans e'.symm,hE q q' x hq c0 hx a0⟩
  .rw[A6 e] at hx;rw[A5 e'] at a0;exact Bo (hs.sub i' q' x (by omega) c0 a0) (hH q x hq hx)
  .rw[A5 e] at hx;rw[A6 e'] at a0;exact Bo (hs.sub i q x (by omega) hq hx) (hH q' x c0 a0)
  .rw[A5 e] at hx;rw[A5 e'] at a0;exact hs.each i q i' q' x (by omega) hq (by omega) c0 hx a0
 .by_cases e:i=n
  .simp only[e,C0];refine(hv q hq).cut.frame fun x hx b0=>d0 x b0 fun y ey eb=>hH q x hq hx.1 (eb▸hs.head y ey)
  .simp only[e,Dj];refine(hr i q (by omega) hq).cut.frame fun x hx b0=>d0 x b0 fun y ey eb=>hs.apart i q y (by omega) hq ey (eb▸hx.1)
theorem xL {P:Program} (w:Ad) {i0:Array Oper} {f0:List Oper} {o:Oper} {a:Act} {Q:Exit->Act->Ad->Prop} (m0:o.guard=I) (s x:Operand) (t:TypeId)
  (ho:o.op=.call {callee:=.builtin .append,args:=#[s,x],argTypes:=#[t,t]})
  (B:Nat) (e:TypeId) (i:TypeInfo) (z:Aj) (size b0:Nat) (ht:P.underlying t=M (.slice e)) (hi:P.info? e=M i) (hz:i.zero=M z)
  (g0:i.size=size) (k0:i.bytes=b0) (p0:z.cells.size=size) (h0:0<size)
  (v:Aj) (n:Nat) (f:Nat->Nat->Dt) (F:Nat->Prop) (hs:a.eval s=v) (hO:Ow w B (.lst e size n f) v F)
  (ad:Al) (c:Nat) (vs:List Aj) (hx:a.eval x=V (M ad) 1 c) (hl:vs.length=size) (o0:∀ j u,vs[j]?=M u->w.cell? (ad.add j)=M u) (h1:∀ u∈vs,u.oneCell'=Aw)
  (d:Nat->Dt) (H:Nat->Nat->Prop) (hv:∀ q,q<size->Ow w B (d q) (vs.getD q O) (H q)) (hH:∀ q x,q<size->H q x->¬ F x) (hE:∀ q q' x,q<size->q'<size->H q x->H q' x->q=q')
  (j0:n+1<=Au) (c0:(n+1)*b0<=140737488355328) (hB:B<=w)
  (h:∀ g cap w',Ow w' B (.lst e size (n+1) (fun i=>if i=n then d else f i)) (V (Addr.mk g 0 I) (n+1) cap) (fun x=>x<w'.1.size/\((F x\/∃ q,q<size/\H q x)\/w.1.size<=x))->Ab B w w'->(∀ x,x<w.1.size->¬ F x->w'.1[x]?=w.1[x]?)->wpList P i0 Q f0 (a.put o.dst (V (Addr.mk g 0 I) (n+1) cap)) w') :
  wpList P i0 Q (o::f0) a w:=by
 obtain⟨a0,cp,cc,G,rfl,d0,e0,hr⟩:=hO;refine De w m0 s x t ho B e i z size b0 ht hi hz g0 k0 p0 h0 _ n _ hs d0 ad 1 c vs hx (by omega) o0 h1 (by omega) j0 c0 hB w rfl fun g cap w' h2 h3 h4 h5=>?_
 have q0:=h3.size;have hk:∀ k,(V a0 n cp).ownBlock=M k->F k/\B<=k/\k<w.1.size:=fun k ek=>by
  cases a0 with
  | none=>cases ek
  | some y=>
   have e1:y.block=k:=by injection ek
   subst e1;exact⟨e0.head y rfl,A0 d0 y.block rfl⟩
 refine h g cap w' (jAh h0 e0 hr hl hv hH hE h2 h3 h4 (fun x hx n0=>⟨by omega,.inl (.inl hx)⟩) (fun q x hq hx n0=>⟨by omega,.inl (.inr ⟨q,hq,hx⟩)⟩) ⟨h5,?_⟩) ((Az _ _).grown h3 hB fun k ek=>(hk k ek).2.1) fun x hx hn=>h3.block x hx fun ek=>hn (hk x ek.symm).1
 rcases h4 with h4|h4
 .exact .inl (.inl (hk g h4).1)
 .exact .inr (by omega)
theorem jQ1 {P:Program} (w:Ad) {o:Oper} {a:Act} {K:Act->Ad->Prop} {Q:Exit->Act->Ad->Prop} (s x:Operand) (t:TypeId)
  (ho:o.op=.call {callee:=.builtin .append,args:=#[s,x],argTypes:=#[t,t]})
  (B:Nat) (e:TypeId) (i:TypeInfo) (z:Aj) (size b0:Nat) (ht:P.underlying t=M (.slice e)) (hi:P.info? e=M i) (hz:i.zero=M z)
  (f0:i.size=size) (i0:i.bytes=b0) (m0:z.cells.size=size) (g0:0<size)
  (v:Aj) (n:Nat) (f:Nat->Nat->Dt) (F:Nat->Prop) (hs:a.eval s=v) (hO:Ow w B (.lst e size n f) v F)
  (ad:Al) (c:Nat) (vs:List Aj) (hx:a.eval x=V (M ad) 1 c) (hl:vs.length=size) (k0:∀ j u,vs[j]?=M u->w.cell? (ad.add j)=M u) (h1:∀ u∈vs,u.oneCell'=Aw)
  (d:Nat->Dt) (H:Nat->Nat->Prop) (hv:∀ q,q<size->Ow w B (d q) (vs.getD q O) (H q)) (hH:∀ q x,q<size->H q x->¬ F x) (hE:∀ q q' x,q<size->q'<size->H q x->H q' x->q=q')
  (h0:n+1<=Au) (c0:(n+1)*b0<=140737488355328) (hB:B<=w)
  (h:∀ g cap w',Ow w' B (.lst e size (n+1) (fun i=>if i=n then d else f i)) (V (Addr.mk g 0 I) (n+1) cap) (fun x=>x<w'.1.size/\((F x\/∃ q,q<size/\H q x)\/w.1.size<=x))->Ab B w w'->Trn w w' F->K (a.put o.dst (V (Addr.mk g 0 I) (n+1) cap)) w') :
  o.wp P a w K Q:=by
 obtain⟨a0,cp,cc,G,rfl,d0,e0,hr⟩:=hO;refine wp_append_lies w s x t ho B e i z size b0 ht hi hz f0 i0 m0 g0 _ n _ hs d0 ad 1 c vs hx (by omega) k0 h1 (by omega) h0 c0 hB w rfl fun g cap w' h2 h3 h4 h5=>?_
 have n0:=h3.size;have hk:∀ k,(V a0 n cp).ownBlock=M k->F k/\B<=k/\k<w.1.size:=fun k ek=>by
  cases a0 with
  | none=>cases ek
  | some y=>
   have e1:y.block=k:=by injection ek
   subst e1;exact⟨e0.head y rfl,A0 d0 y.block rfl⟩
 refine h g cap w' (jAh g0 e0 hr hl hv hH hE h2 h3 h4 (fun x hx j0=>⟨by omega,.inl (.inl hx)⟩) (fun q x hq hx j0=>⟨by omega,.inl (.inr ⟨q,hq,hx⟩)⟩) ⟨h5,?_⟩) ((Az _ _).grown h3 hB fun k ek=>(hk k ek).2.1) ⟨h3.os,h3.tape,h3.output,h3.size,fun x hx hn=>h3.block x hx fun ek=>hn (hk x ek.symm).1⟩;rcases h4 with h4|h4
 .exact .inl (.inl (hk g h4).1)
 .exact .inr (by omega)
def jk (k:Nat) (J:Nat->Nat->Aj) (f:Nat->Nat->Dt) (i q:Nat):Dt:=if i<k then .val (J i q) else f (i-k) q
def OwK (w:Ad) (B:Nat) (t:TypeId) (sz n:Nat) (f:Nat->Nat->Dt) (v:Aj) (F:Nat->Prop):Prop:=
 (v=V I 0 0/\n=0)\/∃ (g k cap K:Nat) (J:Nat->Nat->Aj),k+cap<=K/\n<=cap/\v=V (Q g (k*sz) I) n cap/\Ow w B (.lst t sz (k+n) (jk k J f)) (V g (k+n) K) F
theorem OwK.of {w:Ad} {B:Nat} {t:TypeId} {sz n:Nat} {f:Nat->Nat->Dt} {v:Aj} {F:Nat->Prop} (h:Ow w B (.lst t sz n f) v F):OwK w B t sz n f v F:=by
 obtain⟨a,cap,c,G,rfl,ho,hs,hr⟩:=h;rcases jX ho with ⟨rfl,h0,hc⟩|⟨g,a0,rfl,h1,h2,h3⟩
 .exact .inl ⟨by rw[h0,hc],h0⟩
 .refine .inr ⟨g,0,cap,cap,fun _ _=>O,by omega,h3,by rw[Nat.zero_mul],?_⟩;rw[Bt];refine⟨_,cap,c,G,rfl,ho,hs,fun i q hi hq=>?_⟩;unfold jk;rw[A5 (by omega),Nat.sub_zero];exact hr i q hi hq
theorem OwK.shape {w:Ad} {B:Nat} {t:TypeId} {sz n:Nat} {f:Nat->Nat->Dt} {v:Aj} {F:Nat->Prop} (h:OwK w B t sz n f v F):∃ a cap,v=V a n cap/\n<=cap:=by
 rcases h with ⟨rfl,rfl⟩|⟨g,k,cap,K,J,_,h2,rfl,_⟩
 .exact⟨I,0,rfl,Ay _⟩
 .exact⟨_,cap,rfl,h2⟩
theorem OwK.rd {w:Ad} {B:Nat} {t:TypeId} {sz n:Nat} {f:Nat->Nat->Dt} {v:Aj} {F:Nat->Prop} (h:OwK w B t sz n f v F):Rd w (.lst t sz n f) v:=by
 rcases h with ⟨rfl,rfl⟩|⟨g,k,cap,K,J,h1,h2,rfl,hO⟩
 .exact Rd.nil _ _ _ _ _ _
 .have hr:=hO.rd;refine⟨_,cap,rfl,fun i hi=>⟨g,k*sz,rfl,fun q hq=>?_⟩⟩;obtain⟨b,off,y,ea,hy,a0⟩:=hr.row (show k+i<k+n by omega);cases ea;refine⟨y q,?_,?_⟩
  .have:=hy q hq
   rw[Bt,Eu,Ef] at this;exact this
  .have:=a0 q hq
   unfold jk at this;rw[A5 (by omega),show k+i-k=i by omega] at this;exact this
theorem OwK.frame {w w':Ad} {B:Nat} {t:TypeId} {sz n:Nat} {f:Nat->Nat->Dt} {v:Aj} {F:Nat->Prop} (h:OwK w B t sz n f v F) (hF:∀ g,F g->g<w.1.size->w'.1[g]?=w.1[g]?):OwK w' B t sz n f v F:=by
 rcases h with h|⟨g,k,cap,K,J,h1,h2,h3,hO⟩
 .exact .inl h
 .exact .inr ⟨g,k,cap,K,J,h1,h2,h3,hO.frame hF⟩
theorem OwK.below {w w':Ad} {B:Nat} {t:TypeId} {sz n:Nat} {f:Nat->Nat->Dt} {v:Aj} {F:Nat->Prop} (h:OwK w B t sz n f v F) (hb:Ab w w w'):OwK w' B t sz n f v F:=h.frame fun g _ hg=>hb.block g hg
theorem OwK.mono {w:Ad} {B:Nat} {t:TypeId} {sz n:Nat} {f:Nat->Nat->Dt} {v:Aj} {F F':Nat->Prop} (h:OwK w B t sz n f v F) (hF:∀ g,F g->F' g):OwK w B t sz n f v F':=by
 rcases h with h|⟨g,k,cap,K,J,h1,h2,h3,hO⟩
 .exact .inl h
 .exact .inr ⟨g,k,cap,K,J,h1,h2,h3,hO.mono hF⟩
theorem OwK.congr {w:Ad} {B:Nat} {t:TypeId} {sz n:Nat} {f f':Nat->Nat->Dt} {v:Aj} {F:Nat->Prop} (h:OwK w B t sz n f v F) (e:∀ i q,i<n->q<sz->f i q=f' i q):OwK w B t sz n f' v F:=by
 rcases h with h|⟨g,k,cap,K,J,h1,h2,h3,hO⟩
 .exact .inl h
 .refine .inr ⟨g,k,cap,K,J,h1,h2,h3,hO.congr fun i q hi hq=>?_⟩;unfold jk;by_cases c:i<k
  .rw[A6 c,A6 c]
  .rw[A5 c,A5 c];exact e _ _ (by omega) hq
theorem OwK.cut {w:Ad} {B:Nat} {t:TypeId} {sz n:Nat} {f:Nat->Nat->Dt} {v:Aj} {F:Nat->Prop} (h:OwK w B t sz n f v F):OwK w B t sz n f v (fun g=>F g/\B<=g/\g<w.1.size):=by
 rcases h with h|⟨g,k,cap,K,J,h1,h2,h3,hO⟩
 .exact .inl h
 .exact .inr ⟨g,k,cap,K,J,h1,h2,h3,hO.cut⟩
theorem jN1 {P:Program} (w:Ad) {o:Oper} {a:Act} {K:Act->Ad->Prop} {Q:Exit->Act->Ad->Prop} (s x:Operand) (t:TypeId)
  (ho:o.op=.call {callee:=.builtin .append,args:=#[s,x],argTypes:=#[t,t]})
  (B:Nat) (e:TypeId) (i:TypeInfo) (z:Aj) (size h0:Nat) (ht:P.underlying t=M (.slice e)) (hi:P.info? e=M i) (hz:i.zero=M z)
  (g0:i.size=size) (z0:i.bytes=h0) (i1:z.cells.size=size) (n0:0<size)
  (v:Aj) (n:Nat) (f:Nat->Nat->Dt) (F:Nat->Prop) (hs:a.eval s=v) (hO:OwK w B e size n f v F)
  (ad:Al) (c:Nat) (vs:List Aj) (hx:a.eval x=V (M ad) 1 c) (hl:vs.length=size) (r0:∀ j u,vs[j]?=M u->w.cell? (ad.add j)=M u) (h1:∀ u∈vs,u.oneCell'=Aw)
  (d:Nat->Dt) (H:Nat->Nat->Prop) (hv:∀ q,q<size->Ow w B (d q) (vs.getD q undef) (H q)) (hH:∀ q x,q<size->H q x->¬ F x) (hE:∀ q q' x,q<size->q'<size->H q x->H q' x->q=q')
  (v1:n+1<=1000000) (i0:(n+1)*h0<=140737488355328) (hB:B<=w)
  (h:∀ v' w',OwK w' B e size (n+1) (fun i=>if i=n then d else f i) v' (fun x=>x<w'.1.size/\((F x\/∃ q,q<size/\H q x)\/w.1.size<=x))->Ab B w w'->Trn w w' F->K (a.put o.dst v') w') :
  o.wp P a w K Q:=by
 rcases hO with ⟨rfl,rfl⟩|⟨g,k,cap,K',J,o1,x1,rfl,hO⟩
 .exact jQ1 w s x t ho B e i z size h0 ht hi hz g0 z0 i1 n0 (V I 0 0) 0 f F hs (Ow.nil _ _ _ _ _ _) ad c vs hx hl r0 h1 d H hv hH hE (by unfold Au;omega) i0 hB fun g cap w' o b t=>h _ w' (OwK.of o) b t
 obtain⟨a0,cp,cc,G,e0,j0,c0,hr⟩:=hO;cases e0;have t0:F g:=c0.head _ rfl;obtain⟨y0,w1⟩:=A0 j0 g rfl;have s0:Src P size t (V (M ad) 1 c) 1 vs w:=Src.ofSlice w ht ad 1 c vs (by omega) r0 h1;have p0:vs.length=1*size:=by omega
 by_cases hroom:n+1<=cap
 .obtain⟨k0,hR,u0⟩:∃ k0:Array Aj,Row w g e k0/\k0.size=K'*size:=by
   rcases j0.2 with ⟨h9,_⟩|⟨g',t1,k0,h9,_,hg,_,_,u0,_⟩
   .cases h9
   .cases h9;exact⟨k0,hg,u0⟩
  have a1:∀ j,j<vs.length->(k+n)*size+j<k0.size:=fun j hj=>by
   rw[u0];have h9:(k+n+1)*size<=K'*size:=Du _ (by omega);rw[Eu (k+n)] at h9;omega
  have hc:∀ o9,o9=(k+n)*size->∀ j,j<vs.length->(w.cell? (Addr.mk g (o9+j) I)).isSome=Aw:=fun o9 e9 j hj=>by
   rw[hR.cell (o9+j),e9,C8 (a1 j hj)];rfl
  have hf:∀ o9 j,w.frozen? (Addr.mk g (o9+j) I)=Av:=fun o9 j=>hR.free _
  obtain⟨w2,r1,q0,b0⟩:=run_append_fits (P:=P) w B t o.type e i size ht hi g0 g (k+n) K' (cL size cc (k+n)) j0 ad 1 c vs p0 r0 h1 (by omega);subst g0;have g1:=run_append_room_src (P:=P) w t t o.type e i ht hi g 0 (k+n) K' (V (M ad) 1 c) 1 vs s0 (by omega) (hc _ (by omega)) (fun j _=>hf _ j);have f1:=run_append_room_src (P:=P) w t t o.type e i ht hi g (k*i.size) n cap (V (M ad) 1 c) 1 vs s0 hroom (hc _ (by rw[Eu])) (fun j _=>hf _ j);rw[r1] at g1;injection g1 with _ ew;rw[show k*i.size+n*i.size=0+(k+n)*i.size by rw[Eu,Bt],<-ew] at f1;have u1:=b0.size;unfold Oper.wp execOp;simp only[ho,resolve,invoke,builtin,E9,Gj,Dz,List.map_toArray,Gy,G7,hs,hx,f1];refine h _ w2 (.inr ⟨g,k,cap,K',J,o1,hroom,rfl,?_⟩) ((Az _ _).grown b0 hB fun q eq=>by cases eq;exact y0) ⟨b0.os,b0.tape,b0.output,b0.size,fun y hy hn=>b0.block y hy fun ek=>by cases ek;exact hn t0⟩;have O:=jAh (w:=w) (w':=w2) (B:=B) (t:=e) (sz:=i.size) (n:=k+n) (g:=g) (cap:=K') (cp:=K') (a:=M (Addr.mk g 0 I)) (c:=cc) (G:=G) (f:=jk k J f) (F:=F) (F':=fun x=>x<w2.1.size/\((F x\/∃ q,q<i.size/\H q x)\/w.1.size<=x)) (vs:=vs) (d:=d) (H:=H) n0 c0 hr hl hv hH hE q0 b0 (.inl rfl) (fun x hx v0=>⟨by omega,.inl (.inl hx)⟩) (fun q x hq hx v0=>⟨by omega,.inl (.inr ⟨q,hq,hx⟩)⟩) ⟨by omega,.inl (.inl t0)⟩;refine O.congr fun i' q m1 _=>?_
  show (if i'=k+n then d else jk k J f i') q=if i'<k then .val (J i' q) else (if i' - k=n then d else f (i' - k)) q
  unfold jk;by_cases c1:i'<k
  .rw[A5 (by omega),A6 c1,A6 c1]
  .rw[A5 c1];by_cases c2:i'=k+n
   .rw[A6 c2,A6 (by omega)]
   .rw[A5 c2,A5 c1,A5 (by omega)]
 .have x0:Sep (Addr.mk g 0 I) n size (fun i q=>G (k+i) q) F:=⟨c0.head,fun i q x hi hq hx=>c0.sub _ _ _ (by omega) hq hx,fun i q x hi hq ex hx=>c0.apart _ _ _ (by omega) hq ex hx,fun i q i' q' x hi hq m1 p1 hx s1=>by have:=c0.each _ _ _ _ _ (by omega) hq (by omega) p1 hx s1;omega⟩;have q1:∀ i q,i<n->q<size->Ow w B (f i q) (cc (k+i) q) (G (k+i) q):=fun i q hi hq=>by
   have:=hr (k+i) q (by omega) hq
   unfold jk at this;rw[A5 (by omega),show k+i-k=i by omega] at this;exact this
  obtain⟨d0,Ho⟩:∃ l,l=cL size (fun i q=>cc (k+i) q) n:=⟨_,rfl⟩;have f0:d0.length=n*size:=by rw[Ho,qB]
  have w0:∀ j v,d0[j]?=M v->w.cell? (((Addr.mk g (k*size) I):Al).add j)=M v:=fun j v hj=>by
   have n1:j<n*size:=by rw[<-f0];exact(Ca.1 hj).1
   have hd:j / size<n:=(Db n0).2 n1;have hm:=E5 j n0;have e1:=jU size (fun i q=>cc (k+i) q) n (j / size) (j % size) hd hm;rw[vB,<-Ho,hj] at e1;have e2:=Br j0 ((k+j / size)*size+j % size) (qM (by omega) hm);rw[jU _ _ _ _ _ (by omega) hm] at e2;rw[Addr.add_lit,e1,<-e2,show k*size+j=(k+j / size)*size+j % size by rw[Eu,Ef,vB]]
  subst g0;subst z0;have k1:=grownCap_ge w (n+1) cap e;have j1:grownCap w (n+1) cap e<=Au:=grownCap_le_maxLen w (n+1) cap e (by unfold Au;omega);have b1:=run_append_grow (P:=P) w t o.type e i z ht hi hz (Addr.mk g (k*i.size) I) n cap d0 f0 w0 ad 1 c vs p0 r0 (by omega) (by omega) (growslice_fits (by omega) i0);obtain⟨w2,o0⟩:∃ x,x=w.drew.alloc (.cells (d0.toArray++vs.toArray++Builtin.zeroCells z.cells (grownCap w (n+1) cap e-(n+1))) e):=⟨_,rfl⟩;rw[<-o0] at b1;have b0:w.grownBy w2 (M g):=by rw[o0];exact⟨rfl,rfl,rfl,by simp,fun q hq _=>Go.heap_alloc_old w.drew _ hq⟩
  have m0:(d0++vs).length=(n+1)*i.size:=by rw[Fb,f0,p0,Eu]
  have q0:w2.ownsRow B e i.size (V (Addr.mk w 0 I) (n+1) (grownCap w (n+1) cap e)) (n+1) (d0++vs):=by
   refine⟨m0,.inr ⟨w.1.size,_,_,rfl,hB,by rw[o0];exact Cq w.drew _,k1,j1,?_,?_⟩⟩
   .simp only[Array.size_append,E0,size_zeroCells,i1,f0,p0,<-Eu];congr 1
    omega
   .simp only[Fp,Ge];rw[<-Ge,<-m0];exact List.take_left
  have y1:w2.1.size=w.1.size+1:=by rw[o0];simp
  unfold Oper.wp execOp;simp only[ho,resolve,invoke,builtin,E9,Gj,Dz,List.map_toArray,Gy,G7,hs,hx,b1];refine h _ w2 (OwK.of ?_) ((Az _ _).grown b0 hB fun q eq=>by cases eq;exact y0) ⟨b0.os,b0.tape,b0.output,b0.size,fun y hy hn=>b0.block y hy fun ek=>by cases ek;exact hn t0⟩;rw[Ho] at q0;exact jAh (cp:=cap) n0 x0 q1 hl hv hH hE q0 b0 (.inr rfl) (fun x hx v0=>⟨by omega,.inl (.inl hx)⟩) (fun q x hq hx v0=>⟨by omega,.inl (.inr ⟨q,hq,hx⟩)⟩) ⟨by omega,.inr (Ay _)⟩
theorem JA (b:Nat):∀ (vs us:List Aj) (o:Nat) (w:Ad),w.setCells b o (vs++us)=(w.setCells b o vs).setCells b (o+vs.length) us
 | [],us,o,w=>by simp[World.setCells]
 | v::r,us,o,w=>by
  rw[Fa,World.setCells,World.setCells,JA b r us (o+1)];congr 1
  simp
  omega
theorem jPl (sz:Nat) (c:Nat->Nat->Aj) (n:Nat) (hz:0<sz):cL sz c (n+1)=cL sz c n++(List.range sz).map (c n):=by
 rw[jEo sz c n _ hz (by simp)];refine vZ fun i q _ hq=>?_
 by_cases e:i=n
 .rw[A6 e,Bx];simp[hq,e]
 .rw[A5 e]
theorem jI6 (sz:Nat) (c:Nat->Nat->Aj):cL sz c 0=[]:=by simp[cL]
theorem jPm (sz:Nat) (c:Nat->Nat->Aj) {m n:Nat} (h:m<=n):(cL sz c n).take (m*sz)=cL sz c m:=by
 unfold cL;rw[<-Gz,List.take_range,Nat.min_eq_left (Du _ h)]
theorem jDn {w:Ad} {B:Nat} {t:TypeId} {sz g m K k:Nat} {cc:Nat->Nat->Aj} (hz:0<sz) (ho:w.ownsRow B t sz (V g m K) m (cL sz cc m)) :
  ∀ j,k+1+j<=m->(w.setCells g ((k+1)*sz) (cL sz (fun i q=>cc (k+i) q) j)).ownsRow B t sz (V g m K) m (cL sz (fun i q=>if k+1<=i/\i<k+1+j then cc (i-1) q else cc i q) m)
 | 0,_=>by
  rw[jI6,World.setCells];have e:cL sz (fun i q=>if k+1<=i/\i<k+1+0 then cc (i-1) q else cc i q) m=cL sz cc m:=vZ fun i q _ _=>by rw[A5 (by omega)]
  rw[e];exact ho
 | j+1,h=>by
  have ih:=jDn (k:=k) hz ho j (by omega);rw[jPl sz _ j hz,JA,qB,<-Eu];have h1:=qJ (sz:=sz) (show k+1+j<m by omega) ((List.range sz).map (fun q=>cc (k+j) q)) 0 _ _ (by simp) ih;rw[Cp] at h1;have e:cL sz (fun i q=>if k+1<=i/\i<k+1+(j+1) then cc (i-1) q else cc i q) m=cL sz (fun i' q'=>if i'=k+1+j/\0<=q' then ((List.range sz).map (fun q=>cc (k+j) q)).getD (q' - 0) O else if k+1<=i'/\i'<k+1+j then cc (i' - 1) q' else cc i' q') m:=vZ fun i q _ hq=>by
   by_cases c1:i=k+1+j
   .rw[A6 (by omega),A6 ⟨c1,Bi _⟩,Bx];simp[hq,c1,show k+1+j-1=k+j by omega]
   .by_cases c2:k+1<=i/\i<k+1+j
    .rw[A6 (by omega),A5 (by omega),A6 c2]
    .rw[A5 (by omega),A5 (by omega),A5 c2]
  rw[e];exact h1
theorem Ow.fewer {w:Ad} {B:Nat} {t:TypeId} {sz g m m' K:Nat} {f:Nat->Nat->Dt} {F:Nat->Prop} (h:Ow w B (.lst t sz m f) (V g m K) F) (hm:m'<=m):Ow w B (.lst t sz m' f) (V g m' K) F:=by
 obtain⟨a,cap,c,G,e,ho,hs,hr⟩:=h;cases e;refine⟨_,K,c,G,rfl,⟨qB _ _ _,?_⟩,⟨hs.head,fun i q x hi hq hx=>hs.sub _ _ _ (by omega) hq hx,fun i q x hi hq ex hx=>hs.apart _ _ _ (by omega) hq ex hx,fun i q i' q' x hi hq h0 e0 hx f0=>hs.each _ _ _ _ _ (by omega) hq (by omega) e0 hx f0⟩,fun i q hi hq=>hr i q (by omega) hq⟩;rcases ho.2 with ⟨h9,_⟩|⟨g',g0,b0,h9,hb,hg,hn,c0,d0,a0⟩
 .cases h9
 .cases h9;refine .inr ⟨g,K,b0,rfl,hb,hg,by omega,c0,d0,?_⟩;rw[<-jPm sz c hm,<-a0,List.take_take,Nat.min_eq_left (Du _ hm)]
def jN7 (g k sz cap:Nat):OA:=if cap=1 then M (Q g (k*sz) I) else M (Q g ((k+1)*sz) I)
theorem OwK.take {w:Ad} {B:Nat} {t:TypeId} {sz n g k cap K:Nat} {J:Nat->Nat->Aj} {f:Nat->Nat->Dt} {F:Nat->Prop} (hz:0<sz) (hk:k+cap<=K) (hn:n<=cap) (hO:Ow w B (.lst t sz (k+n) (jk k J f)) (V g (k+n) K) F) (h1:∀ i q v F',Ow w B (f i q) v F'->v.oneCell'=Aw) {b0:Nat} (ha:b0<n):∃ cs:List Aj,cs.length=b0*sz/\(∀ j v,cs[j]?=M v->w.cell? (Q g (k*sz+j) I)=M v)/\(∀ j,j<cs.length->(w.cell? (Q g ((k+1)*sz+j) I)).isSome=Aw)/\(∀ j,w.frozen? (Q g j I)=Av)/\F g/\B<=g/\(∀ v∈cs,v.oneCell'=Aw)/\OwK (w.setCells g ((k+1)*sz) cs) B t sz (n-1) (fun i=>if i<b0 then f i else f (i+1)) (V (jN7 g k sz cap) (n-1) (cap-1)) F:=by
 have p0:=hO;obtain⟨a0,cp,cc,G,e0,ho,hs,hr⟩:=hO;cases e0;have o0:=hs.head _ rfl;obtain⟨r0,x0⟩:=A0 ho g rfl;have c0:∀ i q,i<k+n->q<sz->w.cell? (Q g (i*sz+q) I)=M (cc i q):=fun i q hi hq=>by rw[Br ho _ (qM hi hq)];exact jU _ _ _ _ _ hi hq
 have d0:∀ j,j<b0*sz->j / sz<b0/\j % sz<sz:=fun j hj=>⟨(Db hz).2 hj,E5 _ hz⟩
 refine⟨cL sz (fun i q=>cc (k+i) q) b0,qB _ _ _,fun j v hj=>?_,fun j hj=>?_,fun j=>B0 ho j,o0,r0,fun v hv=>?_,?_⟩
 .have h0:j<b0*sz:=by have:=(Ca.1 hj).1;rw[qB] at this;exact this
  obtain⟨h1,h2⟩:=d0 j h0;have e1:=jU sz (fun i q=>cc (k+i) q) b0 (j / sz) (j % sz) h1 h2;rw[vB,hj] at e1;rw[e1,<-c0 (k+j / sz) (j % sz) (by omega) h2,Eu,Ef,vB]
 .rw[qB] at hj;obtain⟨h1,h2⟩:=d0 j hj;rw[show (k+1)*sz+j=(k+1+j / sz)*sz+j % sz by rw[Eu (k+1),Ef,vB],c0 _ _ (by omega) h2];rfl
 .obtain⟨j,hj⟩:=List.getElem?_of_mem hv;have h0:j<b0*sz:=by have:=(Ca.1 hj).1;rw[qB] at this;exact this
  obtain⟨k1,k2⟩:=d0 j h0;have e1:=jU sz (fun i q=>cc (k+i) q) b0 (j / sz) (j % sz) k1 k2;rw[vB,hj] at e1;injection e1 with e1;rw[e1];have h9:=hr (k+j / sz) (j % sz) (by omega) k2;unfold jk at h9;rw[A5 (Nat.not_lt.2 (Nat.le_add_right _ _))] at h9;exact h1 _ _ _ _ h9
 .by_cases c1:cap=1
  .have u0:n=1:=by omega
   have q0:b0=0:=by omega
   subst c1 u0 q0;rw[jI6,World.setCells];refine .inr ⟨g,k,0,K,J,by omega,Ay _,by simp[jN7],?_⟩;refine(Ow.fewer p0 (m':=k+0) (by omega)).congr fun i q hi _=>?_
   unfold jk;rw[A6 (by omega),A6 (by omega)]
  .have j0:=jDn (k:=k) hz ho b0 (by omega);obtain⟨w',Hw⟩:∃ x,x=w.setCells g ((k+1)*sz) (cL sz (fun i q=>cc (k+i) q) b0):=⟨_,rfl⟩;rw[<-Hw] at j0;rw[<-Hw];obtain⟨c2,g0⟩:∃ x:Nat->Nat->Aj,x=fun i q=>if k+1<=i/\i<k+1+b0 then cc (i-1) q else cc i q:=⟨_,rfl⟩
   rw[<-g0] at j0;have ek:k+1+(n-1)=k+n:=by omega
   refine .inr ⟨g,k+1,cap-1,K,c2,by omega,by omega,by simp[jN7,c1],?_⟩;rw[ek];have fr:∀ x,x≠g->w'.1[x]?=w.1[x]?:=fun x hx=>by rw[Hw];exact jG g _ _ w x hx
   have f0:∀ i,k+1<=i->i<k+n->∃ i0,k<=i0/\i0<k+n/\(∀ q,c2 i q=cc i0 q)/\(i0=if i-(k+1)<b0 then i-1 else i):=fun i h1 h2=>by
    by_cases c3:i-(k+1)<b0
    .exact⟨i-1,by omega,by omega,fun q=>by rw[g0];simp only;rw[A6 (by omega)],by rw[A6 c3]⟩
    .exact⟨i,by omega,by omega,fun q=>by rw[g0];simp only;rw[A5 (by omega)],by rw[A5 c3]⟩
   refine⟨_,K,c2,fun i q x=>k+1<=i/\G (if i-(k+1)<b0 then i-1 else i) q x,rfl,j0,⟨hs.head,fun i q x hi hq hx=>?_,fun i q x hi hq ex hx=>?_,fun i q i' q' x hi hq t0 v0 hx k0=>?_⟩,fun i q hi hq=>?_⟩
   .obtain⟨i0,h1,h2,_,e⟩:=f0 i hx.1 hi;rw[<-e] at hx;exact hs.sub _ _ _ h2 hq hx.2
   .obtain⟨i0,h1,h2,_,e⟩:=f0 i hx.1 hi;rw[<-e] at hx;exact hs.apart _ _ _ h2 hq ex hx.2
   .obtain⟨i0,h1,h2,_,e⟩:=f0 i hx.1 hi;obtain⟨i1,h3,h4,_,e'⟩:=f0 i' k0.1 t0;have n0:=hx.2;have m0:=k0.2;rw[<-e] at n0;rw[<-e'] at m0;have:=hs.each _ _ _ _ _ h2 hq h4 v0 n0 m0
    have hA:=hx.1;have w0:=k0.1;refine⟨?_,this.2⟩;split at e <;> split at e' <;> omega
   .unfold jk;by_cases c3:i<k+1
    .rw[A6 c3];rfl
    .rw[A5 c3];obtain⟨i0,h1,h2,e2,e⟩:=f0 i (by omega) hi;have h9:=hr i0 q h2 hq;unfold jk at h9;rw[A5 (by omega)] at h9;have s0:=h9.frame fun x hx _=>fr x (fun ex=>hs.apart _ _ _ h2 hq rfl (by subst ex;exact hx))
     have e3:(if i-(k+1)<b0 then f (i-(k+1)) else f (i-(k+1)+1)) q=f (i0-k) q:=by
      by_cases c4:i-(k+1)<b0
      .rw[A6 c4] at e |-;rw[e,show i-1-k=i-(k+1) by omega]
      .rw[A5 c4] at e |-;rw[e,show i-k=i-(k+1)+1 by omega]
     show Ow w' B ((if i-(k+1)<b0 then f (i-(k+1)) else f (i-(k+1)+1)) q) (c2 i q) _;rw[e3,e2 q];refine s0.mono fun x hx=>⟨by omega,?_⟩
     rw[<-e];exact hx
theorem jAm {P:Program} (w:Ad) (dT sT ty b0:TypeId) (b o a0 d0:Nat) (a:Al) (c0 f0 size:Nat) (cs:List Aj) (hu:P.underlying dT=M (.slice b0)) (hs:(P.info? b0).map (·.size)=M size) (hn:cs.length=Nat.min c0 a0*size) (e0:∀ j v,cs[j]?=M v->w.cell? (a.add j)=M v) (hc:∀ j,j<cs.length->(w.cell? (Q b (o+j) I)).isSome=Aw) (hf:∀ j,j<cs.length->w.frozen? (Q b (o+j) I)=Av) (h1:∀ v∈cs,v.oneCell'=Aw):(Builtin.copy_ #[dT,sT] ty #[V (Q b o I) a0 d0,V (M a) c0 f0]).run P w=.ok (goInt (Nat.min c0 a0:Nat)) (w.setCells b o cs):=by
 have hl:=run_loadCells_list (P:=P) w a cs e0;have g0:=run_storeCells_cells (P:=P) b o cs 0 w (by simpa using hc) (by simpa using hf) h1;cases hq:P.info? b0 with
 | none=>simp[hq] at hs
 | some i=>
  have hi:i.size=size:=by simpa [hq] using hs
  simp[Builtin.copy_,Ff hu,Builtin.lenOf,Builtin.firstCells,sizeOf,typeInfo,hq,hi,<-hn,hl,g0]
end Go.Proofs.YtcaejlalnjnifaaGreat
