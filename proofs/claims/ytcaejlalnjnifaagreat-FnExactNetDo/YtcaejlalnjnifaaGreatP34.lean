import Derived.Test.YtcaejlalnjnifaaGreatP33
import Derived.Test.YtcaejlalnjnifaaGreatP32
import Derived.Test.YtcaejlalnjnifaaGreatP16
import Derived.Lib.SlBuf
set_option maxHeartbeats 8000000
set_option maxRecDepth 2000
open Go.Value renaming slice->V,pointer->Af,string->Ag,tuple->Ah,agg->Ai,int->Ao,oneCell'->Aq
open Option renaming none->I,some->M
open Go.RowKit renaming Hid->H,Below->Ab
open Go.Addr renaming mk->Q
open Go renaming undef->O,World->Ad,Value->Aj,Calls->Ak,Addr->Al,maxLen->Au
open Go.Obj renaming cells->J
open Go.Ending renaming returned->Ae
open ByteArray renaming empty->Ap
open Go.IntKind renaming i64->Ar
open Bool renaming false->Av,true->Aw
open Go.Proofs.Tryz
open Go.ChangeShapes Go.WideShapes Go.ChangeAt Go.RowKit
namespace Go.Proofs.YtcaejlalnjnifaaGreat
theorem jD4 {P:Program} (w:Ad) {o0:Array Oper} {o:Oper} {a:Act} {K:Act->Ad->Prop} {Q:Exit->Act->Ad->Prop} {E:Prop} (j0:o.guard=I) (s x:Operand) (t:TypeId)
  (ho:o.op=.call {callee:=.builtin .append,args:=#[s,x],argTypes:=#[t,t]})
  (B:Nat) (e:TypeId) (i:TypeInfo) (z:Aj) (size b0:Nat) (ht:P.underlying t=M (.slice e)) (hi:P.info? e=M i) (hz:i.zero=M z)
  (f0:i.size=size) (i0:i.bytes=b0) (n0:z.cells.size=size) (g0:0<size)
  (v:Aj) (n:Nat) (f:Nat->Nat->Dt) (F:Nat->Prop) (hs:a.eval s=v) (hO:Ow w B (.lst e size n f) v F)
  (ad:Al) (c:Nat) (vs:List Aj) (hx:a.eval x=V (M ad) 1 c) (hl:vs.length=size) (m0:∀ j u,vs[j]?=M u->w.cell? (ad.add j)=M u) (h1:∀ u∈vs,u.oneCell'=Aw)
  (d:Nat->Dt) (H:Nat->Nat->Prop) (hv:∀ q,q<size->Ow w B (d q) (vs.getD q O) (H q)) (hH:∀ q x,q<size->H q x->¬ F x) (hE:∀ q q' x,q<size->q'<size->H q x->H q' x->q=q')
  (h0:n+1<=Au) (c0:(n+1)*b0<=140737488355328) (hB:B<=w)
  (h:∀ g cap w',Ow w' B (.lst e size (n+1) (fun i=>if i=n then d else f i)) (V (Addr.mk g 0 I) (n+1) cap) (fun x=>x<w'.1.size/\((F x\/∃ q,q<size/\H q x)\/w.1.size<=x))->Ab B w w'->Trn w w' F->K (a.put o.dst (V (Addr.mk g 0 I) (n+1) cap)) w') :
  if Region.wanted o (yielded o0 a.tmps)=Aw then Oper.wp P o a w K Q else E:=by
 obtain⟨a0,cp,cc,G,rfl,d0,e0,hr⟩:=hO;refine step_append_lies w j0 s x t ho B e i z size b0 ht hi hz f0 i0 n0 g0 _ n _ hs d0 ad 1 c vs hx (by omega) m0 h1 (by omega) h0 c0 hB w rfl fun g cap w' h2 h3 h4 h5=>?_
 have p0:=h3.size;have hk:∀ k,(V a0 n cp).ownBlock=M k->F k/\B<=k/\k<w.1.size:=fun k ek=>by
  cases a0 with
  | none=>cases ek
  | some y=>
   have e1:y.block=k:=by injection ek
   subst e1;exact⟨e0.head y rfl,A0 d0 y.block rfl⟩
 refine h g cap w' (jAc g0 e0 hr hl hv hH hE h2 h3 h4 (fun x hx k0=>⟨by omega,.inl (.inl hx)⟩) (fun q x hq hx k0=>⟨by omega,.inl (.inr ⟨q,hq,hx⟩)⟩) ⟨h5,?_⟩) ((Az _ _).grown h3 hB fun k ek=>(hk k ek).2.1) ⟨h3.os,h3.tape,h3.output,h3.size,fun x hx hn=>h3.block x hx fun ek=>hn (hk x ek.symm).1⟩;rcases h4 with h4|h4
 .exact .inl (.inl (hk g h4).1)
 .exact .inr (by omega)
abbrev hrC (id f:Int) (g n cap p:Nat) (v:Aj):Array Aj:=#[Ao Ar id,Ao Ar f,V g n cap,Af (Q g (p*13) I),v]
structure Hr (W:Ad) (B Hb:Nat) (id f:Int) (g n cap p:Nat) (S:Nat->Sl) (sa:OA) (m sc:Nat) (Y:Nat->Sy) (F1 F2:Nat->Prop):Prop where
 r:Row W Hb 156 (hrC id f g n cap p (V sa m sc))
 o:Ow W B (qG n S) (V g n cap) F1
 y:Ow W B (qJ m Y) (V sa m sc) F2
 d:∀ x,F1 x->¬ F2 x
 h1:¬ F1 Hb
 h2:¬ F2 Hb
 b:B<=Hb/\B<=W
 l1:∀ x,F1 x->x<W.1.size
 l2:∀ x,F2 x->x<W.1.size
theorem Hr.below {W W':Ad} {B Hb:Nat} {id f:Int} {g n cap p:Nat} {S:Nat->Sl} {sa:OA} {m sc:Nat} {Y:Nat->Sy} {F1 F2:Nat->Prop} (h:Hr W B Hb id f g n cap p S sa m sc Y F1 F2) (hb:Ab W W W'):Hr W' B Hb id f g n cap p S sa m sc Y F1 F2:=
 ⟨h.r.below hb h.r.lt,h.o.below hb,h.y.below hb,h.d,h.h1,h.h2,⟨h.b.1,Bx h.b.2 hb.size⟩,fun x hx=>Br (h.l1 x hx) hb.size,fun x hx=>Br (h.l2 x hx) hb.size⟩
theorem Hr.said {W W':Ad} {B Hb:Nat} {id f:Int} {g n cap p:Nat} {S:Nat->Sl} {sa sb:OA} {m m' sc a0:Nat} {Y Y':Nat->Sy} {F1 F2 F8:Nat->Prop} (h:Hr W B Hb id f g n cap p S sa m sc Y F1 F2) (o:Ow W' B (qJ m' Y') (V sb m' a0) F8) (t:Trn W W' F2) (hF:∀ x,F8 x->x<W'.1.size/\(F2 x\/W.1.size<=x)):Row W' Hb 156 (hrC id f g n cap p (V sa m sc))/\Hr (W'.setCell (Q Hb 4 I) (V sb m' a0)) B Hb id f g n cap p S sb m' a0 Y' F1 F8/\Trn W (W'.setCell (Q Hb 4 I) (V sb m' a0)) (fun x=>x=Hb\/F2 x):=by
 have hr:Row W' Hb 156 (hrC id f g n cap p (V sa m sc)):=(t.block Hb h.r.lt h.h2).trans h.r;have h8:¬ F8 Hb:=fun k=>by
  rcases (hF Hb k).2 with k|k
  .exact h.h2 k
  .have:=h.r.lt;omega
 refine⟨hr,⟨hr.set 4 _,(h.o.turned t h.d).far 4 _ h.h1,o.far 4 _ h8,fun x k1 k8=>?_,h.h1,h8,⟨h.b.1,by simpa using Bx h.b.2 t.size⟩,fun x k=>by simpa using Br (h.l1 x k) t.size,fun x k=>by simpa using (hF x k).1⟩,(t.mono (fun _ k=>.inr k)).trans (Trn.set _ 4 _ (.inl rfl))⟩;rcases (hF x k8).2 with k|k
 .exact h.d x k1 k
 .have:=h.l1 x k1;omega
def syA (k id:Int) (r:BA) (i:Nat):Sy:=⟨k,id,(i:Int),r,⟨Ap,0,0,0,Ap,0,fun _=>Ap⟩⟩
def syM (Y:Nat->Sy) (m:Nat) (k id:Int) (r:BA) (i:Nat):Sy:=if i<m then Y i else syA k id r (i-m)
theorem jK5 {W:Ad} {B g n cap p:Nat} {S:Nat->Sl} {F:Nat->Prop} (h:Ow W B (qG n S) (V g n cap) F) (hp:p<n):W.cell? (Q g (p*13) I)=M (Ag (S p).r):=by
 obtain⟨b,off,y,e,hc,hr⟩:=h.rd.row hp;cases e;have h0:=hc 0 (by omega);have r0:=hr 0 (by omega);rw[Bq,Cp] at h0;rw[h0];exact D8 M r0
theorem jOc {W:Ad} {B:Nat} {k id:Int} {r:BA} {i:Nat} (q:Nat) (hq:q<10):Ow W B (syD (syA k id r i) q) ([Ao Ar k,id,(i:Int),r,Zs,(),(),(),Zs,V I 0 0].getD q O) (fun _=>False):=by
 match q,hq with
 | 0,_|1,_|2,_|3,_|4,_|5,_|6,_|7,_|8,_=>rfl
 | 9,_=>exact Ow.nil _ _ _ _ _ _
theorem jM3 {Y:Nat->Sy} {m c:Nat} {k id:Int} {r:BA} (i q:Nat) (_hi:i<m+c+1):(if i=m+c then syD (syA k id r c) else syD (syM Y m k id r i)) q=syD (syM Y m k id r i) q:=by
 by_cases e:i=m+c
 .subst e;rw[A6 rfl];unfold syM;rw[A5 (by omega),Fv]
 .rw[A5 e]
theorem jQh {w w1 w2 w3:Ad} {Hb:Nat} {F F':Nat->Prop} (t:Trn w2 w3 (fun x=>x=Hb\/F' x)) (hF:∀ x,F' x->F x\/w.1.size<=x) (t1:Trn w w1 (fun x=>x=Hb\/F x)) (b:Ab w1 w1 w2):Trn w w3 (fun x=>x=Hb\/F x):=by
 have t2:=t1.trans (Trn.ofBelow _ b);refine⟨t.os.trans t2.os,t.tape.trans t2.tape,t.output.trans t2.output,Bx t2.size t.size,fun j hj hn=>?_⟩;refine(t.block j (Br hj t2.size) (fun k=>?_)).trans (t2.block j hj hn);rcases k with k|k
 .exact hn (.inl k)
 .rcases hF j k with k|k
  .exact hn (.inr k)
  .omega
abbrev jId (k id:Int) (c:Nat) (r:BA):Array Aj:=#[Ao Ar k,Ao Ar id,Ao Ar (c:Int),Ag r,Ag ⟨#[]⟩,Ao Ar 0,Ao Ar 0,Ao Ar 0,Ag ⟨#[]⟩,V I 0 0]
theorem jNa {e0:Array Oper} {o:Oper} {a:Act} {K:Act->Ad->Prop} {Q:Exit->Act->Ad->Prop} {E:Prop} (w7:Ad) (a0:o.guard=I) (s x:Operand)
  (ho:o.op=.call {callee:=.builtin .append,args:=#[s,x],argTypes:=#[34,34]})
  (k id f:Int) (B Hb g n cap p:Nat) (S:Nat->Sl) (sa:OA) (m c sc:Nat) (Y:Nat->Sy) (r:BA) (F1 F2:Nat->Prop)
  (hs:a.eval s=V sa (m+c) sc) (hx:a.eval x=V (Addr.mk w7 0 I) 1 1)
  (h7:Hr (w7.alloc (J (jId k id c r) 31)) B Hb id f g n cap p S sa (m+c) sc (syM Y m k id r) F1 F2) (hm:m+c<=2000000)
  (h:∀ g8 c8 w8 F8,Row w8 Hb 156 (hrC id f g n cap p (V sa (m+c) sc))/\Hr (w8.setCell (Addr.mk Hb 4 I) (V (Addr.mk g8 0 I) (m+c+1) c8)) B Hb id f g n cap p S (Addr.mk g8 0 I) (m+c+1) c8 (syM Y m k id r) F1 F8/\Trn (w7.alloc (J (jId k id c r) 31)) (w8.setCell (Addr.mk Hb 4 I) (V (Addr.mk g8 0 I) (m+c+1) c8)) (fun x=>x=Hb\/F2 x)/\(∀ x,F8 x->F2 x\/w7.1.size<x)->K (a.put o.dst (V (Addr.mk g8 0 I) (m+c+1) c8)) w8) :
  if Region.wanted o (yielded e0 a.tmps)=Aw then Oper.wp prog o a (w7.alloc (J (jId k id c r) 31)) K Q else E:=by
 obtain⟨i0,hi,b0,c0,d0⟩:=Ch Tryz.infoSyZ;refine jD4 _ a0 s x 34 ho B 31 i0 (Ai zcY.toArray) 10 120 Dm hi b0 c0 d0 rfl (by decide) (V sa (m+c) sc) (m+c) _ F2 hs h7.y ⟨w7.1.size,0,I⟩ 1 (jId k id c r).toList hx rfl (Cf (t:=31) (fr:=(0,0)) (Row.new w7 _ _)) (by simp[Aq]) (syD (syA k id r c)) (fun _ _=>False) (fun q hq=>jOc q hq) (fun _ _ _ h=>h.elim) (fun _ _ _ _ _ h=>h.elim) (by unfold Au;omega) (by omega) h7.b.2 fun g8 c8 w8 O8 b8 T8=>?_
 have O9:Ow w8 B (qJ (m+c+1) (syM Y m k id r)) (V (Addr.mk g8 0 I) (m+c+1) c8) (fun x=>x<w8.1.size/\(F2 x\/w7.1.size<x)):=(O8.mono (fun x hx=>⟨hx.1,by
  rcases hx.2 with (h|⟨_,_,h⟩)|h
  .exact .inl h
  .exact h.elim
  .have e:(w7.alloc (J (jId k id c r) 31)).1.size=w7.1.size+1:=by simp
   rw[e] at h;exact .inr h⟩)).congr (fun i q hi _=>jM3 i q hi)
 obtain⟨q1,q2,q3⟩:=h7.said O9 T8 (fun x hx=>⟨hx.1,by
  have e:(w7.alloc (J (jId k id c r) 31)).1.size=w7.1.size+1:=by simp
  rw[e];exact hx.2⟩)
 exact h g8 c8 w8 _ ⟨q1,q2,q3,fun x hx=>hx.2⟩
theorem Tryz.infoSy10:(Tryz.prog.info? 31).map (·.size)=M 10:=by kernel_rfl
structure HwK (W:Ad) (B Hb:Nat) (f:Int) (vs vl vm:Aj) (n:Nat) (Y:Nat->Sy) (vw:Aj) (F:Nat->Prop):Prop where
 r:Row W Hb 179 #[f,vs,vl,vm,vw]
 o:OwK W B 31 10 n (fun i=>syD (Y i)) vw F
 h:¬ F Hb
 b:B<=Hb
theorem HwK.below {W W':Ad} {B Hb:Nat} {f:Int} {vs vl vm:Aj} {n:Nat} {Y:Nat->Sy} {vw:Aj} {F:Nat->Prop} (h:HwK W B Hb f vs vl vm n Y vw F) (hb:Ab W W W'):HwK W' B Hb f vs vl vm n Y vw F:=⟨h.r.below hb h.r.lt,h.o.below hb,h.h,h.b⟩
theorem jRy {w:Ad} {B:Nat} {y:Sy} {q:Nat} {v:Aj} {F:Nat->Prop} (h:Ow w B (syD y q) v F):v.oneCell'=Aw:=by
 match q,h with
 | 0,h|1,h|2,h|3,h|4,h|5,h|6,h|7,h|8,h=>have e:v=_:=h;rw[e];rfl
 | q+9,h=>obtain⟨a,c,_,_,e,_⟩:=h;rw[e];rfl
theorem jRx (Y:Nat->Sy) (a7:Nat):(fun i=>if i<a7 then (fun i=>syD (Y i)) i else (fun i=>syD (Y i)) (i+1))=fun i=>syD ((fun i=>if i<a7 then Y i else Y (i+1)) i):=by
 funext i
 show (if i<a7 then syD (Y i) else syD (Y (i+1)))=syD (if i<a7 then Y i else Y (i+1));split <;> rfl
theorem jCy (B Hb:Nat) (f:Int) (vs vl vm:Aj) (n:Nat) (Y:Nat->Sy) (vw:Aj) (F:Nat->Prop) (a7:Nat) (w:Ad) (h:HwK w B Hb f vs vl vm n Y vw F) (ha:a7<n) (hn:n<=3000):Ak prog 168 #[Af Hb,(a7:Int)] w fun e w'=>e=Ae (Ah #[])/\∃ b1,HwK w' B Hb f vs vl vm (n-1) (fun i=>if i<a7 then Y i else Y (i+1)) b1 F/\Trn w w' (fun x=>x=Hb\/F x):=by
 rcases h.o with ⟨_,h0⟩|⟨g,k,cap,K,J,y0,w0,rfl,hO⟩
 .omega
 obtain⟨cs,n0,o0,f0,v0,t0,f1,h1,m0⟩:=OwK.take (w:=w.drew) (by omega) y0 w0 (hO.below (jD w)) (fun i q v F' h=>jRy h) ha;rw[show (k+1)*10=k*10+10 by omega] at f0 m0;have z0:Hb≠g:=fun e=>h.h (by rw[e];exact t0)
 have q0:Nat.min a7 a7=a7:=Nat.min_self a7;have c0:H ((Builtin.copy_ #[34,34] 3 #[V (if cap=1 then M (Q g (k*10) I) else M (Q g (k*10+10) I)) a7 (cap-1),V (Q g (k*10) I) a7 cap]).run prog w.drew=.ok (a7:Int) (w.drew.setCells g (k*10+10) cs)):=by
  show _=_;by_cases c1:cap=1
  .have u0:a7=0:=by omega
   subst u0;have x0:cs=[]:=List.eq_nil_of_length_eq_zero (by omega);subst x0;rw[A6 c1];have:=jAi (P:=prog) w.drew 34 34 3 31 g (k*10) 0 (cap-1) (Q g (k*10) I) 0 cap 10 [] Dm Tryz.infoSy10 (by simp) (fun j v hj=>by simp at hj) (fun j hj=>by simp at hj) (fun j hj=>by simp at hj) (fun v hv=>by cases hv)
   rw[this];rfl
  .rw[A5 c1];have:=jAi (P:=prog) w.drew 34 34 3 31 g (k*10+10) a7 (cap-1) (Q g (k*10) I) a7 cap 10 cs Dm Tryz.infoSy10 (by rw[q0];exact n0) (fun j v hj=>by rw[Addr.add_lit];exact o0 j v hj) f0 (fun j _=>v0 _) h1
   rw[this,q0];rfl
 have x4:=h.r.cell 4;simp at x4;have R1:Row (w.drew.setCells g (k*10+10) cs) Hb 179 #[f,vs,vl,vm,V (Q g (k*10) I) n cap]:=(jE g _ _ w.drew Hb z0).trans h.r;have KY:H ((w.drew.setCells g (k*10+10) cs).cell? (Q Hb 4 I)=M (V (Q g (k*10) I) n cap)):=by
  show _=_;have:=R1.cell 4
  simpa using this
 have KZ:=hd (R1.free 4);have a0:H (HwK ((w.drew.setCells g (k*10+10) cs).setCell (Q Hb 4 I) (V (jNs g k 10 cap) (n-1) (cap-1))) B Hb f vs vl vm (n-1) (fun i=>if i<a7 then Y i else Y (i+1)) (V (jNs g k 10 cap) (n-1) (cap-1)) F/\Trn w ((w.drew.setCells g (k*10+10) cs).setCell (Q Hb 4 I) (V (jNs g k 10 cap) (n-1) (cap-1))) (fun x=>x=Hb\/F x)):=by
  refine⟨⟨R1.set 4 _,?_,h.h,h.b⟩,?_⟩
  .rw[jRx] at m0;exact m0.frame fun x hx _=>Ck _ (Q Hb 4 I) x _ (fun e=>h.h (by have e':x=Hb:=e;rw[<-e'];exact hx))
  .exact((Trn.drew w _).trans (jD7 w.drew (F:=fun x=>x=Hb\/F x) (.inr t0) _ _)).trans (Trn.set _ 4 _ (.inl rfl))
 have hcut:jNs g k 10 cap=if cap=1 then M (Q g (k*10) I) else M (Q g (k*10+10) I):=by unfold jNs;rw[show (k+1)*10=k*10+10 by omega]
 rw[hcut] at a0;obtain⟨off,s0⟩:=nnH (k*10);rw[s0.out] at c0 KY KZ a0 x4;clear hO m0 o0 f0 v0 h1 n0 R1 h hcut q0;by_cases c1:cap=1
 .subst c1;obtain rfl:n=1:=by omega
  obtain rfl:a7=0:=by omega
  simp only[C0,Nat.sub_self] at c0 a0;have a1:IntKind.i64.wrap 1=1:=by decide
  go_enter func168,ntmps168
  go_wp2_with fail
  refine JE Tryz.mixed 14 [([],[0,13]),([0],[1,13]),([1],[2,13]),([2],[3,13]),([],[4,13]),([4],[5,13]),([3,5],[6,13]),([],[7,13]),([7],[8,13]),([8],[9,13]),([9],[10,13]),([],[11,13]),([10,11],[12,13]),([6,12],[13])] (by kernel_rfl) (fun L A9 W=>∃ (b0:Aj),A9=⟨#[Af Hb,(),O,O,cX (L 0) (Af Hb) O,cX (L 1) (Af Hb) O,cX (L 2) (Af (Q Hb 4 I)) O,cX (L 3) (V (Q g off I) 1 1) O,cX (L 4) () O,cX (L 5) (1:Int) O,cX (L 6) (V (Q g off I) 0 0) O,cX (L 7) (Af Hb) O,cX (L 8) (Af Hb) O,cX (L 9) (Af (Q Hb 4 I)) O,cX (L 10) (V (Q g off I) 1 1) O,cX (L 11) () O,cX (L 12) (V (Q g off I) 0 1) O,b0,O,O,O,O,O,O,O,O],[]⟩/\(L 13=Av->W=w.drew)/\(L 13=Aw->W=w.drew.setCells g (off+10) cs)) ?_ ?_ ?_
  .exact⟨O,rfl,(fun _=>rfl),(fun h=>by cases h)⟩
  .rintro a9 wx ⟨b0,j0,-,e0⟩;simp only[Nat.reduceLT,Dn,jJ] at j0;subst j0;replace e0:=(e0 rfl)
   subst e0;have y4:(w.drew.setCells g (off+10) cs).cell? (Q Hb 4 I)=M (V (Q g off I) 1 1):=KY.out;have z4:(w.drew.setCells g (off+10) cs).frozen? (Q Hb 4 I)=Av:=KZ.out;obtain⟨w1,p0⟩:=nmH (w.drew.setCells g (off+10) cs);rw[<-p0.out] at y4 z4 a0 |-;clear c0 KY KZ;go_wp2
   go_end0
   exact⟨rfl,_,a0⟩
  .intro q9 r0 L a9 W S i0;match q9,r0 with
   | 0,_|1,_|2,_|3,_|4,_|5,_|6,_|7,_|8,_|9,_|10,_|11,_|12,_=>
    obtain⟨b0,rfl,h0,h1⟩:=i0;simp only[knT,kn,knN] at S;have d0:L 13=Av:=by simp only[S]
    obtain rfl:=h0 d0;refine jB rfl (fun _=>rfl) fun K hK=>?_
    try simp only[S,jJ]
    go_simp
    exact hK _ _ ⟨b0,(by simp only[Nat.reduceBEq,Be,Bp,jJ,S]),h0,h1⟩
   | 13,_=>
    obtain⟨b0,rfl,h0,h1⟩:=i0;obtain⟨d6,g0,d0,-⟩:=S;obtain rfl:=h0 d0;refine jB rfl (fun _=>rfl) fun K hK=>?_
    simp only[d6,g0,jJ];refine Go.Lib.wp_copy_run w.drew _ _ 34 34 rfl _ _ rfl rfl c0.out ?_;exact hK _ _ ⟨(),(by simp[Act.put,jJ,d6,g0]),nf,(fun k0=>rfl)⟩
   | n9+14,h=>exact Bo h (by omega)
 .simp only[c1,Dj] at c0 a0;have ai:(a7:Int)<(n:Int):=by omega
  have k1:n<=cap:=w0;have a1:IntKind.i64.wrap ((a7:Int)+1)=(a7:Int)+1:=by rw[A8];omega
  have j1:(a7:Int)+1<=(cap:Int):=by omega
  have u0:(0:Int)<=(a7:Int):=by omega
  have g1:(0:Int)<=(a7:Int)+1:=by omega
  have i1:(1:Int)<=(a7:Int)+1:=by omega
  have e1:(a7:Int)<=(cap:Int):=by omega
  go_enter func168,ntmps168
  go_wp2_with fail
  refine JE Tryz.mixed 14 [([],[0,13]),([0],[1,13]),([1],[2,13]),([2],[3,13]),([],[4,13]),([4],[5,13]),([3,5],[6,13]),([],[7,13]),([7],[8,13]),([8],[9,13]),([9],[10,13]),([],[11,13]),([10,11],[12,13]),([6,12],[13])] (by kernel_rfl) (fun L A9 W=>∃ (b0:Aj),A9=⟨#[Af Hb,(a7:Int),O,O,cX (L 0) (Af Hb) O,cX (L 1) (Af Hb) O,cX (L 2) (Af (Q Hb 4 I)) O,cX (L 3) (V (Q g off I) n cap) O,cX (L 4) (a7:Int) O,cX (L 5) ((a7:Int)+1:Int) O,cX (L 6) (V (Q g (off+10) I) a7 (cap-1)) O,cX (L 7) (Af Hb) O,cX (L 8) (Af Hb) O,cX (L 9) (Af (Q Hb 4 I)) O,cX (L 10) (V (Q g off I) n cap) O,cX (L 11) (a7:Int) O,cX (L 12) (V (Q g off I) a7 cap) O,b0,O,O,O,O,O,O,O,O],[]⟩/\(L 13=Av->W=w.drew)/\(L 13=Aw->W=w.drew.setCells g (off+10) cs)) ?_ ?_ ?_
  .exact⟨O,rfl,(fun _=>rfl),(fun h=>by cases h)⟩
  .rintro a9 wx ⟨b0,j0,-,e0⟩;simp only[Nat.reduceLT,Dn,jJ] at j0;subst j0;replace e0:=(e0 rfl)
   subst e0;have y4:(w.drew.setCells g (off+10) cs).cell? (Q Hb 4 I)=M (V (Q g off I) n cap):=KY.out;have z4:(w.drew.setCells g (off+10) cs).frozen? (Q Hb 4 I)=Av:=KZ.out;obtain⟨w1,p0⟩:=nmH (w.drew.setCells g (off+10) cs);rw[<-p0.out] at y4 z4 a0 |-;clear c0 KY KZ;go_wp2
   go_end0
   exact⟨rfl,_,a0⟩
  .intro q9 r0 L a9 W S i0;match q9,r0 with
   | 0,_|1,_|2,_|3,_|4,_|5,_|6,_|7,_|8,_|9,_|10,_|11,_|12,_=>
    obtain⟨b0,rfl,h0,h1⟩:=i0;simp only[knT,kn,knN] at S;have d0:L 13=Av:=by simp only[S]
    obtain rfl:=h0 d0;refine jB rfl (fun _=>rfl) fun K hK=>?_
    try simp only[S,jJ]
    go_simp
    exact hK _ _ ⟨b0,(by simp only[Nat.reduceBEq,Be,Bp,jJ,S]),h0,h1⟩
   | 13,_=>
    obtain⟨b0,rfl,h0,h1⟩:=i0;obtain⟨d6,g0,d0,-⟩:=S;obtain rfl:=h0 d0;refine jB rfl (fun _=>rfl) fun K hK=>?_
    simp only[d6,g0,jJ];refine Go.Lib.wp_copy_run w.drew _ _ 34 34 rfl _ _ rfl rfl c0.out ?_;exact hK _ _ ⟨(a7:Int),(by simp[Act.put,jJ,d6,g0]),nf,(fun k0=>rfl)⟩
   | n9+14,h=>exact Bo h (by omega)
theorem MkS.put {w w1:Ad} {B t sz g n cap:Nat} {G:Nat->Nat->Nat->Prop} {D:Nat->Nat->Dt} {F:Nat->Prop} (h:MkS w B t sz g n cap G D) (hs:Sep g n sz G F) {i q:Nat} (hi:i<n) (hq:q<sz) (ht:Trn w w1 (G i q)) {d':Dt} {v':Aj} {H:Nat->Prop} (ho:Ow w1 B d' v' H) (hH:∀ x,H x->G i q x\/w.1.size<=x):Ow (w1.setCell (Q g (i*sz+q) I) v') B (.lst t sz n (fun i' q'=>if i'=i/\q'=q then d' else D i' q')) (V g n cap) (fun x=>F x\/w.1.size<=x):=by
 obtain⟨c,c0,hr⟩:=h;have hg:=A0 c0 g rfl;have h0:w1.ownsRow B t sz (V g n cap) n (cL sz c n):=by
  refine⟨c0.1,?_⟩;rcases c0.2 with h'|⟨g',d0,i0,h1,h2,h3,h4⟩
  .exact .inl h'
  .refine .inr ⟨g',d0,i0,h1,h2,?_,h4⟩;have e:g'=g:=by cases h1;rfl
   subst e;rw[ht.block g' hg.2 (hs.apart i q _ hi hq rfl)];exact h3
 have h1:=(Dh h0 (i*sz+q) v').1;rw[jFu _ _ _ _ _ _ hi hq] at h1;have e0:¬ H g:=fun k=>by
  rcases hH g k with k|k
  .exact hs.apart i q _ hi hq rfl k
  .omega
 refine⟨_,cap,_,fun i' q' x=>if i'=i/\q'=q then H x else G i' q' x/\x<w.1.size,rfl,h1,⟨fun x e=>?_,fun i' q' x a0 b0 k=>?_,fun i' q' x a0 b0 e k=>?_,fun i' q' i2 q2 x a0 b0 f0 g0 k k2=>?_⟩,fun i' q' a0 b0=>?_⟩
 .cases e;exact .inl (hs.head _ rfl)
 .by_cases e:i'=i/\q'=q
  .rw[A6 e] at k;rcases hH x k with k|k
   .exact .inl (hs.sub i q x hi hq k)
   .exact .inr k
  .rw[A5 e] at k;exact .inl (hs.sub i' q' x a0 b0 k.1)
 .cases e;by_cases e:i'=i/\q'=q
  .rw[A6 e] at k;exact e0 k
  .rw[A5 e] at k;exact hs.apart i' q' _ a0 b0 rfl k.1
 .by_cases e:i'=i/\q'=q <;> by_cases e2:i2=i/\q2=q
  .exact⟨e.1.trans e2.1.symm,e.2.trans e2.2.symm⟩
  .rw[A6 e] at k;rw[A5 e2] at k2;rcases hH x k with k|k
   .have:=hs.each i q i2 q2 x hi hq f0 g0 k k2.1
    exact Bo ⟨this.1.symm,this.2.symm⟩ e2
   .have:=k2.2;omega
  .rw[A5 e] at k;rw[A6 e2] at k2;rcases hH x k2 with k2|k2
   .have:=hs.each i q i' q' x hi hq a0 b0 k2 k.1
    exact Bo ⟨this.1.symm,this.2.symm⟩ e
   .have:=k.2;omega
  .rw[A5 e] at k;rw[A5 e2] at k2;exact hs.each i' q' i2 q2 x a0 b0 f0 g0 k.1 k2.1
 .by_cases e:i'=i/\q'=q
  .simp only[e,and_self,C0];exact ho.far _ _ e0
  .simp only[e,Dj];have h2:Ow w1 B (D i' q') (c i' q') (fun x=>G i' q' x/\x<w.1.size):=((hr i' q' a0 b0).cut.mono (fun x k=>⟨k.1,k.2.2⟩)).turned ht fun x k k2=>e (hs.each i' q' i q x a0 b0 hi hq k.1 k2)
   exact h2.far _ _ (fun k=>hs.apart i' q' _ a0 b0 rfl k.1)
theorem Hr.slots {W W2:Ad} {B Hb:Nat} {id f:Int} {g n cap p:Nat} {S S':Nat->Sl} {sa:OA} {m sc:Nat} {Y:Nat->Sy} {F1 F2 F':Nat->Prop} (h:Hr W B Hb id f g n cap p S sa m sc Y F1 F2) (t:Trn W W2 F1) (o:Ow W2 B (qG n S') (V g n cap) F') (hF:∀ x,F' x->F1 x\/W.1.size<=x):∃ a0,Hr W2 B Hb id f g n cap p S' sa m sc Y a0 F2/\∀ x,a0 x->F1 x\/W.1.size<=x:=by
 have hd:∀ x,F2 x->¬ F1 x:=fun x k2 k1=>h.d x k1 k2
 refine⟨_,⟨(t.block Hb h.r.lt h.h1).trans h.r,o.cut,h.y.turned t hd,fun x k1 k2=>?_,fun k=>?_,h.h2,⟨h.b.1,Bx h.b.2 t.size⟩,fun x k=>k.2.2,fun x k=>Br (h.l2 x k) t.size⟩,fun x k=>hF x k.1⟩
 .rcases hF x k1.1 with k|k
  .exact h.d x k k2
  .have:=h.l2 x k2;omega
 .rcases hF Hb k.1 with k|k
  .exact h.h1 k
  .have:=h.r.lt;omega
def jCh (S:Nat->Sl) (p:Nat) (zs:List Int) (i:Nat):Sl:=if i=p then {S p with ze:=zs} else S i
def jEd (S:Nat->Sl) (p:Nat) (zs:List Int) (i:Nat):Sl:=if i=p then {S p with zr:=zs} else S i
theorem jRu (S:Nat->Sl) (p:Nat) (zs:List Int) (i q:Nat) (hq:q<13):(if i=p/\q=11 then inD zs else slD (S i) q)=slD (jCh S p zs i) q:=by
 unfold jCh;by_cases e:i=p
 .subst e;match q,hq with
  | 0,_|1,_|2,_|3,_|4,_|5,_|6,_|7,_|8,_|9,_|10,_|11,_|12,_=>simp[slD]
 .simp[e]
theorem jRw (S:Nat->Sl) (p:Nat) (zs:List Int) (i q:Nat) (hq:q<13):(if i=p/\q=12 then inD zs else slD (S i) q)=slD (jEd S p zs i) q:=by
 unfold jEd;by_cases e:i=p
 .subst e;match q,hq with
  | 0,_|1,_|2,_|3,_|4,_|5,_|6,_|7,_|8,_|9,_|10,_|11,_|12,_=>simp[slD]
 .simp[e]
theorem zX (k id f:Int) (B Hb g n cap p:Nat) (S:Nat->Sl) (sa:OA) (m sc:Nat) (Y:Nat->Sy) (F1 F2:Nat->Prop) (n3:Nat) (w:Ad) (h:Hr w B Hb id f g n cap p S sa m sc Y F1 F2) (hf:1<=f/\f<=3) (hp:p<n) (hm:m<=1048576) (hr:(S p).r.size<=1048576) (j0:(n3:Int)=3*f+1):Ak prog 153 #[Af Hb,k] w fun e w'=>e=Ae (Ah #[])/\∃ b0 c0 a0,Hr w' B Hb id f g n cap p S b0 (m+n3) c0 (syM Y m k id (S p).r) F1 a0/\Trn w w' (fun x=>x=Hb\/F2 x)/\∀ x,a0 x->F2 x\/w.1.size<=x:=by
 obtain⟨r,HR⟩:=nnH ((S p).r);rw[HR.out] at hr;rw[HR.out];have KH:=hd h;have HP:=hd hp;have KN:H (∀ W,CS 72 #[f] W (n3:Int)):=fun W=>by rw[j0];exact vG f W hf
 have KC:H (∀ W,CB 120 #[r] W r):=fun W=>qN r W hr
 have H3:n3<=10:=by omega
 have x1:=h.r.cell 1;simp at x1;clear h hf j0 hp hr;go_enter func153,ntmps153
 go_wp2_with (go_at_call 72;refine Ax (KN _) ?_;rintro e w' ⟨rfl,hw⟩;obtain rfl:=hw.symm;clear hw)
 go_loopw [11] (fun vi wr=>∃ c:Nat,c<=n3/\vi=Ao Ar (c:Int)/\H (∃ b0 c0 a0,Hr wr B Hb id f g n cap p S b0 (m+c) c0 (syM Y m k id r) F1 a0/\Trn w wr (fun x=>x=Hb\/F2 x)/\∀ x,a0 x->F2 x\/w.1.size<=x)) (fun vi _=>n3-(intOf vi).toNat)
 case atStart=>exact⟨0,Bi _,rfl,sa,sc,F2,⟨KH.r,KH.o,KH.y.congr (fun i q hi _=>by show _=syD (syM Y m k id r i) q;unfold syM;rw[A6 (show i<m from hi)]),KH.d,KH.h1,KH.h2,KH.b,KH.l1,KH.l2⟩,Trn.refl _ _,fun x hx=>.inl hx⟩
 case round=>
  obtain⟨c,hc,rfl,h0⟩:=hrel;obtain⟨b0,c0,a0,hH,hT,hF⟩:=h0.out;clear h0 x1;by_cases hlt:c<n3
  .have n0:(c:Int)<(n3:Int):=by omega
   have f0:=hd hH;have d0:H (Trn w wr (fun x=>x=Hb\/F2 x)/\∀ x,a0 x->F2 x\/w.1.size<=x):=⟨hT,hF⟩;have i0:H (∀ W,Ab wr.1.size wr W->(W.cell? Hb=M (Ao Ar id)/\W.cell? (Q Hb 3 I)=M (Af (Q g (p*13) I))/\W.cell? (Q Hb 4 I)=M (V b0 (m+c) c0)/\W.cell? (Q g (p*13) I)=M (Ag r))/\W.frozen? (Q Hb 4 I)=Av):=fun W hW=>by
    have q:=f0.below hW;have y0:=q.r.cell 0;have y3:=q.r.cell 3;have y4:=q.r.cell 4;simp at y0 y3 y4;have yr:=jK5 q.o HP;rw[HR.out] at yr;exact⟨⟨y0,y3,y4,yr⟩,q.r.free 4⟩
   obtain⟨⟨y0,y3,y4,yr⟩,yf⟩:=i0 wr (Az _ _);have g0:H (c<n3/\m<=1048576):=⟨hlt,hm⟩;have hdr:=jD wr;have k0:H (∀ w7,Ab wr.1.size wr w7->Hr (w7.alloc (J (jId k id c r) 31)) B Hb id f g n cap p S b0 (m+c) c0 (syM Y m k id r) F1 a0/\Ab wr.1.size wr (w7.alloc (J (jId k id c r) 31))/\Hb<w7.1.size):=fun w7 b7=>by
    have b8:Ab w7.1.size w7 (w7.alloc (J (jId k id c r) 31)):=(Az _ _).alloc (Ay _) _;exact⟨(f0.below b7).below b8,jA b7 b8,(f0.below b7).r.lt⟩
   clear hH hT hF;go_upto_region 3 with fail
   go_region_law ((first|(guard_hyp K7;refine jNa w7 rfl _ _ rfl k id f B Hb g n cap p S b0 m c c0 Y r F1 a0 rfl rfl ?_ ?_ ?_;exact K7.1;(have:=g0.out;omega);intro g8 c8 w8 F8 e0;have K8:H _:=e0;have z4:=e0.1.cell 4;have zf:=e0.1.free 4;simp at z4;clear e0)|(go_simp;go_wp2_with (go_at_call 120;refine Ax (KC _) ?_;rintro e w7 ⟨rfl,b7'⟩;have b7:=jC b7';clear b7';obtain⟨⟨p0,p3,p4,pr⟩,pf⟩:=i0.out _ b7;have K7:H (Hr (w7.alloc (J (jId k id c r) 31)) B Hb id f g n cap p S b0 (m+c) c0 (syM Y m k id r) F1 a0/\Ab wr.1.size wr (w7.alloc (J (jId k id c r) 31))/\Hb<w7.1.size):=k0 _ b7;have s0:=K7.2.2;have q4:=K7.1.r.cell 4;have q0:=K7.1.r.cell 0;simp at q4 q0))))
   all_goals
    have KR:H (∃ b0 c0 a0,Hr (w8.setCell (Q Hb 4 I) (V g8 (m+c+1) c8)) B Hb id f g n cap p S b0 (m+(c+1)) c0 (syM Y m k id r) F1 a0/\Trn w (w8.setCell (Q Hb 4 I) (V g8 (m+c+1) c8)) (fun x=>x=Hb\/F2 x)/\∀ x,a0 x->F2 x\/w.1.size<=x):=by
     obtain⟨_,q,t,m0⟩:=K8.out;have o0:=K7.2.1.size;have r0:=d0.1.size;have e:(w7.alloc (J (jId k id c r) 31)).1.size=w7.1.size+1:=by simp
     refine⟨_,_,_,q,jQh t d0.2 d0.1 K7.2.1,fun x hx=>?_⟩;rcases m0 x hx with h|h
     .exact d0.2 x h
     .exact .inr (by omega)
    have h1:=g0.1;go_wp2_with fail
    go_roundw
    case rel=>exact⟨c+1,by omega,by go_num,KR⟩
    case measure=>simp[intOf];omega
  .obtain rfl:n3=c:=by omega
   have KZ:H _:=(⟨b0,c0,a0,hH,hT,hF⟩:∃ b0 c0 a0,Hr wr B Hb id f g n cap p S b0 (m+n3) c0 (syM Y m k id r) F1 a0/\Trn w wr (fun x=>x=Hb\/F2 x)/\∀ x,a0 x->F2 x\/w.1.size<=x);clear hH hT hF;go_wp2
   go_end0
   exact⟨rfl,KZ⟩
theorem jA9 (k id f:Int) (v:Aj) (r:BA) (n3:Nat) (w:Ad) (hf:1<=f/\f<=3) (m0:(n3:Int)=3*f+1):Ak prog 53 #[ndV id f v,k,r] w fun e w'=>∃ g c,e=Ae (V (Q g 0 I) n3 c)/\Ow w' w (qJ n3 (syA k id r)) (V (Q g 0 I) n3 c) (rng w w'.1.size)/\Ab w w w':=by
 obtain⟨i0,hi,n0,o0,p0⟩:=Ch Tryz.infoSyZ;obtain⟨A,HA⟩:=nmH w.1.size;obtain⟨w0,a0⟩:=nmH (w.alloc (J #[id,f,v] 26));have RA:=jZ a0 HA;have j0:=bl1 a0;have e0:=hd j0;have KA:H (∀ W,CS 50 #[f] W (n3:Int)):=fun W=>by rw[m0];exact vQ f W hf
 have HM:H (n3<=10):=by show n3<=10;omega
 obtain⟨w1,d0⟩:=nmH (w0.alloc (J #[] 31));have k0:A+1=w0.1.size:=by rw[a0.out,HA.out];simp
 obtain⟨g1,c0⟩:=nmH (A+1);have K1:H (Ow w1 w0 (qJ 0 (syA k id r)) (V g1 0 0) (rng w0 w1.1.size)/\Ab w0 w0 w1):=by
  rw[c0.out,k0,d0.out];refine⟨⟨_,0,fun _ _=>O,fun _ _ _=>False,rfl,?_,⟨fun x e=>?_,fun _ _ _ hi=>Bo hi (Bk _),fun _ _ _ hi=>Bo hi (Bk _),fun _ _ _ _ _ hi=>Bo hi (Bk _)⟩,fun _ _ hi=>Bo hi (Bk _)⟩,(Az _ _).alloc (Ay _) _⟩
  .have:=Cc (e:=31) (size:=10) (base:=w0.1.size) w0 #[] 0 (by simp) (by unfold Au;omega) (by simp)
   simpa [cL] using this
  .cases e;exact⟨Ay _,by simp⟩
 go_enter func53,ntmps53
 go_wp2_with fail
 rw[<-a0.out,<-HA.out,<-d0.out,<-c0.out];go_loopw [7,8] (fun vv vi wr=>∃ c g cc:Nat,c<=n3/\vv=V (Q g 0 I) c cc/\vi=Ao Ar (c:Int)/\H (Ow wr w0 (qJ c (syA k id r)) (V (Q g 0 I) c cc) (rng w0 wr.1.size)/\Ab w0 w0 wr)) (fun _ vi _=>n3-(intOf vi).toNat)
 case atStart=>exact⟨0,g1,0,Bi _,rfl,rfl,K1⟩
 case round=>
  obtain⟨c,g,cc,hc,rfl,rfl,HO⟩:=hrel;have f0:=RA.below HO.2 RA.lt;have x0:=f0.cell 0;have x1:=f0.cell 1;simp at x0 x1;by_cases hlt:c<n3
  .have q0:(c:Int)<(n3:Int):=by omega
   have g0:=hd hlt;obtain⟨w5,b0⟩:=nmH (wr.alloc (J #[k,id,(c:Int),r,Zs,(),(),(),Zs,V I 0 0] 31));have b5:=bl1 b0;go_wp2_with (first|(go_at_call 50;refine Ax (KA.out _) ?_;rintro e w' ⟨rfl,hw⟩;obtain rfl:=hw.symm;clear hw)|(at_builtin;rw[<-b0.out];refine(show True->_ from ?_) trivial))
   intro _;refine xJ w5 rfl _ _ 34 rfl w0 31 i0 (Ai zcY.toArray) 10 120 Dm hi n0 o0 p0 rfl (by decide) (V (M ⟨g,0,I⟩) c cc) c _ _ rfl (HO.1.below b5) ⟨wr.1.size,0,I⟩ 1 [k,id,(c:Int),r,Zs,(),(),(),Zs,V I 0 0] rfl rfl ?_ (by simp[Aq]) (syD (syA k id r c)) (fun _ _=>False) (fun q hq=>jOc q hq) (fun _ _ _ h=>h.elim) (fun _ _ _ _ _ h=>h.elim) (by have:=HM.out;unfold Au;omega) (by have:=HM.out;omega) ?_ ?_
   .rw[b0.out];exact Cf (t:=31) (fr:=(0,0)) (Row.new wr _ _)
   .exact Bx HO.2.size b5.size
   intro g' c' w6 O6 b6 _;have K6:H (Ow w6 w0 (qJ (c+1) (syA k id r)) (V g' (c+1) c') (rng w0 w6.1.size)/\Ab w0 w0 w6):=by
    have h5:=HO.2.size;have h6:=b5.size;refine⟨(O6.mono (fun x hx=>?_)).congr (fun i q _ _=>?_),(jA HO.2 b5).trans b6⟩
    .refine⟨?_,hx.1⟩;rcases hx.2 with (h|⟨_,_,h⟩)|h
     .exact h.1
     .exact h.elim
     .show w0.1.size<=x;omega
    .by_cases e:i=c
     .subst e;simp
     .simp[e]
   have h1:=g0.out;have h2:=HM.out;go_wp2
   go_roundw
   case rel=>exact⟨c+1,g',c',by omega,by go_num,by go_num,K6⟩
   case measure=>simp[intOf];omega
  .obtain rfl:n3=c:=by omega
   have ZZ:H (Ow wr w (qJ n3 (syA k id r)) (V (Q g 0 I) n3 cc) (rng w wr.1.size)/\Ab w w wr):=by
    have h0:=e0.size;exact⟨(HO.1.base h0).mono (fun x hx=>⟨Bx h0 hx.1,hx.2⟩),jA e0 HO.2⟩
   go_wp2_with (go_at_call 50;refine Ax (KA _) ?_;rintro e w' ⟨rfl,hw⟩;obtain rfl:=hw.symm;clear hw)
   go_ret
   exact⟨g,cc,rfl,ZZ.1,ZZ.2⟩
theorem XO (id f:Int) (B Hb g n cap p:Nat) (S:Nat->Sl) (sa:OA) (m sc:Nat) (Y:Nat->Sy) (F1 F2:Nat->Prop) (y:Sy) (v9:Aj) (w:Ad) (h:Hr w B Hb id f g n cap p S sa m sc Y F1 F2) (hp:p<n) (hz:(S p).ze.length<=1048576) (hs:(S p).ze.Pairwise (.<=.)):Ak prog 109 #[Af Hb,syV y v9] w fun e w'=>e=Ae (Ah #[])/\∃ a0,Hr w' B Hb id f g n cap p (jCh S p (xK (S p).ze y.f)) sa m sc Y a0 F2/\Trn w w' (fun x=>x=Hb\/F1 x\/F2 x)/\∀ x,a0 x->F1 x\/w.1.size<=x:=by
 obtain⟨A,HA⟩:=nmH w.1.size;obtain⟨w0,c0⟩:=nmH (w.alloc (J (syC y v9) 31));have d0:=bl1 c0;have RA:=jZ c0 HA;have KH:=hd (h.below d0);have g0:=hd d0;obtain⟨G,b0,e0⟩:=Ow.mk KH.o;have KG:H (Sep g n 13 G F1/\MkS w0 B 42 13 g n cap G (fun i=>slD (S i))):=⟨b0,e0⟩;obtain⟨vz,cz,fz,oz⟩:=MkS.cell e0 hp (show 11<13 by omega);have f0:Ow w0 B (inD (S p).ze) vz (G p 11):=oz;obtain⟨az,kz,rfl,_,_⟩:=JU f0;obtain⟨zs,HZ⟩:=nnH (xK (S p).ze y.f);have KW:H (Ak prog 154 #[V az (S p).ze.length kz,y.f] w0.drew fun e w'=>∃ a' c',e=Ae (V a' zs.length c')/\Ow w' B (inD zs) (V a' zs.length c') (fun x=>G p 11 x\/w0.1.size<=x)/\Trn w0 w' (G p 11)):=by
  have:=XV B az kz (S p).ze y.f (G p 11) w0.drew (f0.below (jD w0)) KH.b.2 hz hs
  rw[HZ.out] at this;refine Ax this ?_;rintro e w' ⟨a',c',rfl,o',t'⟩;exact⟨a',c',rfl,o',(Trn.drew w0 _).trans t'⟩
 rw[HZ.out];obtain⟨N,HN⟩:=nnH ((S p).ze.length);rw[HN.out] at KW cz;have HP:=hd hp;have y3:=KH.r.cell 3;have x1:=RA.cell 1;simp at y3 x1;have h0:H (∀ W,Trn w0 W (G p 11)->W.cell? (Q Hb 3 I)=M (Af (Q g (p*13) I))/\W.cell? (Q g (p*13+11) I)=M (V az N kz)/\W.frozen? (Q g (p*13+11) I)=Av):=fun W hW=>by
  have r1:Row W Hb 156 _:=(hW.block Hb KH.r.lt (fun k=>KH.h1 (KG.1.sub p 11 Hb HP (by omega) k))).trans KH.out.r;have q3:=r1.cell 3;simp at q3;have hb:=hW.block g (MkS.lt KG.2).2 (KG.1.apart p 11 _ HP (by omega) rfl);exact⟨q3,(World.cell?_of_block hb).trans cz,(Cw hb).trans fz⟩
 have i0:=cz;clear h d0 b0 e0 oz f0 hz hs hp;go_enter func109,ntmps109
 go_wp2_with fail
 rw[<-c0.out,<-HA.out];go_region_with ((go_at_call 154;refine Ax KW.out ?_;rintro e w7 ⟨a7,c7,rfl,o7,t7⟩;have K7:H (Ow w7 B (inD zs) (V a7 zs.length c7) (fun x=>G p 11 x\/w0.1.size<=x)/\Trn w0 w7 (G p 11)):=⟨o7,t7⟩;obtain⟨p3,pz,pf⟩:=h0 _ t7;clear o7 t7))
 all_goals
  go_wp2_with fail
  go_end0
  have o8:Ow (w7.setCell (Q g (p*13+11) I) (V a7 zs.length c7)) B (qG n (jCh S p zs)) (V g n cap) (fun x=>F1 x\/w0.1.size<=x):=(MkS.put KG.2 KG.1 HP (by omega) K7.out.2 K7.out.1 (fun x k=>k)).congr (fun i q _ hq=>jRu S p zs i q hq);have t8:Trn w0 (w7.setCell (Q g (p*13+11) I) (V a7 zs.length c7)) F1:=(K7.2.mono (fun x k=>KG.1.sub p 11 x HP (by omega) k)).trans (Trn.set _ _ _ (KG.out.1.head _ rfl));obtain⟨a0,hh,hF⟩:=KH.slots t8 o8 (fun x k=>k);refine⟨rfl,a0,hh,(Trn.ofBelow _ g0).trans (t8.mono (fun x k=>.inr (.inl k))),fun x k=>?_⟩;rcases hF x k with k|k
  .exact .inl k
  .exact .inr (Bx g0.size k)
theorem QJ (id f:Int) (B Hb g n cap p:Nat) (S:Nat->Sl) (sa:OA) (m sc:Nat) (Y:Nat->Sy) (F1 F2:Nat->Prop) (y:Sy) (v9:Aj) (w:Ad) (h:Hr w B Hb id f g n cap p S sa m sc Y F1 F2) (hp:p<n) (hz:(S p).zr.length<=1048576) (hs:(S p).zr.Pairwise (.<=.)):Ak prog 110 #[Af Hb,syV y v9] w fun e w'=>e=Ae (Ah #[])/\∃ a0,Hr w' B Hb id f g n cap p (jEd S p (xK (S p).zr y.f)) sa m sc Y a0 F2/\Trn w w' (fun x=>x=Hb\/F1 x\/F2 x)/\∀ x,a0 x->F1 x\/w.1.size<=x:=by
 obtain⟨A,HA⟩:=nmH w.1.size;obtain⟨w0,c0⟩:=nmH (w.alloc (J (syC y v9) 31));have d0:=bl1 c0;have RA:=jZ c0 HA;have KH:=hd (h.below d0);have g0:=hd d0;obtain⟨G,b0,e0⟩:=Ow.mk KH.o;have KG:H (Sep g n 13 G F1/\MkS w0 B 42 13 g n cap G (fun i=>slD (S i))):=⟨b0,e0⟩;obtain⟨vz,cz,fz,oz⟩:=MkS.cell e0 hp (show 12<13 by omega);have f0:Ow w0 B (inD (S p).zr) vz (G p 12):=oz;obtain⟨az,kz,rfl,_,_⟩:=JU f0;obtain⟨zs,HZ⟩:=nnH (xK (S p).zr y.f);have KW:H (Ak prog 154 #[V az (S p).zr.length kz,y.f] w0.drew fun e w'=>∃ a' c',e=Ae (V a' zs.length c')/\Ow w' B (inD zs) (V a' zs.length c') (fun x=>G p 12 x\/w0.1.size<=x)/\Trn w0 w' (G p 12)):=by
  have:=XV B az kz (S p).zr y.f (G p 12) w0.drew (f0.below (jD w0)) KH.b.2 hz hs
  rw[HZ.out] at this;refine Ax this ?_;rintro e w' ⟨a',c',rfl,o',t'⟩;exact⟨a',c',rfl,o',(Trn.drew w0 _).trans t'⟩
 rw[HZ.out];obtain⟨N,HN⟩:=nnH ((S p).zr.length);rw[HN.out] at KW cz;have HP:=hd hp;have y3:=KH.r.cell 3;have x1:=RA.cell 1;simp at y3 x1;have h0:H (∀ W,Trn w0 W (G p 12)->W.cell? (Q Hb 3 I)=M (Af (Q g (p*13) I))/\W.cell? (Q g (p*13+12) I)=M (V az N kz)/\W.frozen? (Q g (p*13+12) I)=Av):=fun W hW=>by
  have r1:Row W Hb 156 _:=(hW.block Hb KH.r.lt (fun k=>KH.h1 (KG.1.sub p 12 Hb HP (by omega) k))).trans KH.out.r;have q3:=r1.cell 3;simp at q3;have hb:=hW.block g (MkS.lt KG.2).2 (KG.1.apart p 12 _ HP (by omega) rfl);exact⟨q3,(World.cell?_of_block hb).trans cz,(Cw hb).trans fz⟩
 have i0:=cz;clear h d0 b0 e0 oz f0 hz hs hp;go_enter func110,ntmps110
 go_wp2_with fail
 rw[<-c0.out,<-HA.out];go_region_with ((go_at_call 154;refine Ax KW.out ?_;rintro e w7 ⟨a7,c7,rfl,o7,t7⟩;have K7:H (Ow w7 B (inD zs) (V a7 zs.length c7) (fun x=>G p 12 x\/w0.1.size<=x)/\Trn w0 w7 (G p 12)):=⟨o7,t7⟩;obtain⟨p3,pz,pf⟩:=h0 _ t7;clear o7 t7))
 all_goals
  go_wp2_with fail
  go_end0
  have o8:Ow (w7.setCell (Q g (p*13+12) I) (V a7 zs.length c7)) B (qG n (jEd S p zs)) (V g n cap) (fun x=>F1 x\/w0.1.size<=x):=(MkS.put KG.2 KG.1 HP (by omega) K7.out.2 K7.out.1 (fun x k=>k)).congr (fun i q _ hq=>jRw S p zs i q hq);have t8:Trn w0 (w7.setCell (Q g (p*13+12) I) (V a7 zs.length c7)) F1:=(K7.2.mono (fun x k=>KG.1.sub p 12 x HP (by omega) k)).trans (Trn.set _ _ _ (KG.out.1.head _ rfl));obtain⟨a0,hh,hF⟩:=KH.slots t8 o8 (fun x k=>k);refine⟨rfl,a0,hh,(Trn.ofBelow _ g0).trans (t8.mono (fun x k=>.inr (.inl k))),fun x k=>?_⟩;rcases hF x k with k|k
  .exact .inl k
  .exact .inr (Bx g0.size k)
theorem Hr.flag {W:Ad} {B Hb:Nat} {id f:Int} {g n cap p:Nat} {S S':Nat->Sl} {sa:OA} {m sc:Nat} {Y:Nat->Sy} {F1 F2:Nat->Prop} (h:Hr W B Hb id f g n cap p S sa m sc Y F1 F2) (hp:p<n) (q:Nat) (hq:q<13) (b:Bool) (hS:∀ i q',q'<13->(if i=p/\q'=q then Dt.val b else slD (S i) q')=slD (S' i) q'):∃ a0,Hr (W.setCell (Q g (p*13+q) I) b) B Hb id f g n cap p S' sa m sc Y a0 F2/\(∀ x,a0 x->F1 x\/W.1.size<=x)/\Trn W (W.setCell (Q g (p*13+q) I) b) F1:=by
 obtain⟨G,b0,c0⟩:=Ow.mk h.o;have o8:Ow (W.setCell (Q g (p*13+q) I) b) B (qG n S') (V g n cap) (fun x=>F1 x\/W.1.size<=x):=(MkS.put c0 b0 hp hq (Trn.refl W _) (d':=.val b) (v':=.bool b) (H:=fun _=>False) rfl (fun x k=>k.elim)).congr (fun i q' _ d0=>hS i q' d0);have t8:Trn W (W.setCell (Q g (p*13+q) I) b) F1:=Trn.set _ _ _ (b0.head _ rfl);obtain⟨a0,hh,hF⟩:=h.slots t8 o8 (fun x k=>k);exact⟨a0,hh,hF,t8⟩
theorem Hr.slotc {W:Ad} {B Hb:Nat} {id f:Int} {g n cap p:Nat} {S:Nat->Sl} {sa:OA} {m sc:Nat} {Y:Nat->Sy} {F1 F2:Nat->Prop} (h:Hr W B Hb id f g n cap p S sa m sc Y F1 F2) (hp:p<n) (q:Nat) (hq:q<13):∃ v,W.cell? (Q g (p*13+q) I)=M v/\W.frozen? (Q g (p*13+q) I)=Av/\Rd W (slD (S p) q) v:=by
 obtain⟨G,b0,a0⟩:=Ow.mk h.o;obtain⟨v,c,fz,o⟩:=MkS.cell a0 hp hq;exact⟨v,c,fz,o.rd⟩
def XT (S:Nat->Sl) (p:Nat) (b:Bool) (i:Nat):Sl:=if i=p then {S p with o:=b} else S i
def jAn (S:Nat->Sl) (p:Nat) (i:Nat):Sl:=if i=p then {S p with d:=Aw} else S i
theorem jOl (S:Nat->Sl) (p:Nat) (b:Bool) (i q:Nat) (hq:q<13):(if i=p/\q=10 then Dt.val b else slD (S i) q)=slD (XT S p b i) q:=by
 unfold XT;by_cases e:i=p
 .subst e;match q,hq with
  | 0,_|1,_|2,_|3,_|4,_|5,_|6,_|7,_|8,_|9,_|10,_|11,_|12,_=>simp[slD]
 .simp[e]
theorem jOn (S:Nat->Sl) (p i q:Nat) (hq:q<13):(if i=p/\q=9 then Dt.val Aw else slD (S i) q)=slD (jAn S p i) q:=by
 unfold jAn;by_cases e:i=p
 .subst e;match q,hq with
  | 0,_|1,_|2,_|3,_|4,_|5,_|6,_|7,_|8,_|9,_|10,_|11,_|12,_=>simp[slD]
 .simp[e]
theorem jFb (id f:Int) (B Hb g n cap p:Nat) (S:Nat->Sl) (sa:OA) (m sc:Nat) (Y:Nat->Sy) (F1 F2:Nat->Prop) (st:Int) (w:Ad) (h:Hr w B Hb id f g n cap p S sa m sc Y F1 F2) (hf:1<=f/\f<=3) (hp:p<n) (b0:stI f (S p).ze.length (S p).zr.length=st):Ak prog 112 #[Af Hb,()] w fun e w'=>e=Ae (Ah #[])/\Hr w' B Hb id f g n cap p S sa m sc Y F1 F2/\Trn w w' (fun x=>x=Hb\/F1 x\/F2 x):=by
 obtain⟨b1,o1,y,a6,c0,d0,c6,e0,f0,e1,hc,ey,_,_,_⟩:=vI h.o.rd hp;cases e1;have KH:=hd h;have HP:=hd hp;have KS:H (∀ W,Ab w w W->(W.cell? Hb=M (Ao Ar id)/\W.cell? (Q Hb 1 I)=M (Ao Ar f)/\W.cell? (Q Hb 2 I)=M (V g n cap)/\W.cell? (Q Hb 3 I)=M (Af (Q g (p*13) I)))/\W.cell? (Q g (p*13) I)=M (y 0)/\∀ q,q<13->W.cell? (Q g (p*13+q) I)=M (y q)):=fun W hW=>by
  have r:=(KH.below hW).r;have z0:=r.cell 0;have z1:=r.cell 1;have z2:=r.cell 2;have z3:=r.cell 3;simp at z0 z1 z2 z3;have hq:∀ q,q<13->W.cell? (Q g (p*13+q) I)=M (y q):=fun q hq=>by
   have h1:=hc q hq;rw[Bq] at h1;exact(hW.cell (A7 h1)).trans h1
  exact⟨⟨z0,z1,z2,z3⟩,hq 0 (by omega),hq⟩
 have KT:H (∀ W,CB 118 #[ndV id f (V g n cap),jIl y] W st):=fun W=>by
  rw[ey,<-b0];exact vM id f _ (S p) _ c0 d0 _ _ e0 f0 W hf
 have hdr:=jD w;clear h hc ey b0 hf hp;go_enter func112,ntmps112
 go_wp2_with fail
 go_region_held3 (fun w'=>(w'.cell? (Q Hb 0 I)=M (Ao Ar id)/\w'.cell? (Q Hb 1 I)=M (Ao Ar f)/\w'.cell? (Q Hb 2 I)=M (V g n cap)/\w'.cell? (Q Hb 3 I)=M (Af (Q g (p*13) I)))/\w'.cell? (Q g (p*13) I)=M (y 0)/\∀ q,q<13->w'.cell? (Q g (p*13+q) I)=M (y q)) (exact KS _ (by assumption)) ((go_at_call 118;refine Ax (KT _) ?_;rintro e w7 ⟨rfl,a0⟩;have b7:=jC a0;clear a0))
 have KZ:H (Hr w7 B Hb id f g n cap p S sa m sc Y F1 F2/\Trn w w7 (fun x=>x=Hb\/F1 x\/F2 x)):=⟨KH.below b7,Trn.ofBelow _ b7⟩;clear b7;go_wp2
 go_end0
 exact⟨rfl,KZ⟩
theorem jDx (id f:Int) (B Hb g n cap p:Nat) (S:Nat->Sl) (sa:OA) (m sc:Nat) (Y:Nat->Sy) (F1 F2:Nat->Prop) (st:Int) (w:Ad) (h:Hr w B Hb id f g n cap p S sa m sc Y F1 F2) (hf:1<=f/\f<=3) (hp:p<n) (b0:stI f (S p).ze.length (S p).zr.length=st) (hn:st<1\/(S p).d=Aw):Ak prog 112 #[Af Hb,(1:Int)] w fun e w'=>e=Ae (Ah #[])/\Hr w' B Hb id f g n cap p S sa m sc Y F1 F2/\Trn w w' (fun x=>x=Hb\/F1 x\/F2 x):=by
 obtain⟨b1,o1,y,a6,d0,e0,c6,f0,g0,e1,hc,ey,_,_,_⟩:=vI h.o.rd hp;cases e1;have KH:=hd h;have HP:=hd hp;have KS:H (∀ W,Ab w w W->(W.cell? Hb=M (Ao Ar id)/\W.cell? (Q Hb 1 I)=M (Ao Ar f)/\W.cell? (Q Hb 2 I)=M (V g n cap)/\W.cell? (Q Hb 3 I)=M (Af (Q g (p*13) I)))/\W.cell? (Q g (p*13) I)=M (y 0)/\∀ q,q<13->W.cell? (Q g (p*13+q) I)=M (y q)):=fun W hW=>by
  have r:=(KH.below hW).r;have z0:=r.cell 0;have z1:=r.cell 1;have z2:=r.cell 2;have z3:=r.cell 3;simp at z0 z1 z2 z3;have hq:∀ q,q<13->W.cell? (Q g (p*13+q) I)=M (y q):=fun q hq=>by
   have h1:=hc q hq;rw[Bq] at h1;exact(hW.cell (A7 h1)).trans h1
  exact⟨⟨z0,z1,z2,z3⟩,hq 0 (by omega),hq⟩
 have KT:H (∀ W,CB 118 #[ndV id f (V g n cap),jIl y] W st):=fun W=>by
  rw[ey,<-b0];exact vM id f _ (S p) _ d0 e0 _ _ f0 g0 W hf
 have hdr:=jD w;have yd:H (y 9=.bool (S p).d):=by
  show y 9=.bool (S p).d;have:=xD ey
  simp at this;exact this.2.2.2.2.2.2.2.2.2.1
 clear h hc ey b0 hf hp;go_enter func112,ntmps112
 go_wp2_with fail
 go_region_held3 (fun w'=>(w'.cell? (Q Hb 0 I)=M (Ao Ar id)/\w'.cell? (Q Hb 1 I)=M (Ao Ar f)/\w'.cell? (Q Hb 2 I)=M (V g n cap)/\w'.cell? (Q Hb 3 I)=M (Af (Q g (p*13) I)))/\w'.cell? (Q g (p*13) I)=M (y 0)/\∀ q,q<13->w'.cell? (Q g (p*13+q) I)=M (y q)) (exact KS _ (by assumption)) ((go_at_call 118;refine Ax (KT _) ?_;rintro e w7 ⟨rfl,a0⟩;have b7:=jC a0;clear a0))
 have r7:=KS _ b7;obtain⟨⟨_,_,_,z3⟩,_,hz⟩:=r7;have z9:=hz 9 (by omega);have c0:=yd.out;rw[c0] at z9;have KZ:H (Hr w7 B Hb id f g n cap p S sa m sc Y F1 F2/\Trn w w7 (fun x=>x=Hb\/F1 x\/F2 x)):=⟨KH.below b7,Trn.ofBelow _ b7⟩;clear b7;clear hz;by_cases hs:1<=st
 .have hd:(S p).d=Aw:=by rcases hn with h|h;omega;exact h
  rw[hd] at z9 c0;clear hn;go_wp2
  go_end0
  exact⟨rfl,KZ⟩
 .clear hn z9;go_wp2
  go_end0
  exact⟨rfl,KZ⟩
theorem jDy (id f:Int) (B Hb g n cap p:Nat) (S:Nat->Sl) (sa:OA) (m sc:Nat) (Y:Nat->Sy) (F1 F2:Nat->Prop) (n3:Nat) (st:Int) (w:Ad) (h:Hr w B Hb id f g n cap p S sa m sc Y F1 F2) (hf:1<=f/\f<=3) (hp:p<n) (k0:stI f (S p).ze.length (S p).zr.length=st) (hs:1<=st) (e0:(S p).d=Av) (hm:m<=1048576) (hr:(S p).r.size<=1048576) (j0:(n3:Int)=3*f+1):Ak prog 112 #[Af Hb,(1:Int)] w fun e w'=>e=Ae (Ah #[])/\∃ c0 d0 a0 b0,Hr w' B Hb id f g n cap p (jAn S p) c0 (m+n3) d0 (syM Y m 2 id (S p).r) a0 b0/\Trn w w' (fun x=>x=Hb\/F1 x\/F2 x)/\(∀ x,a0 x->F1 x\/w.1.size<=x)/\∀ x,b0 x->F2 x\/w.1.size<=x:=by
 obtain⟨b1,o1,y,a6,o0,p0,c6,q0,r0,e1,hc,ey,_,_,_⟩:=vI h.o.rd hp;cases e1;have KH:=hd h;have HP:=hd hp;have KS:H (∀ W,Ab w w W->(W.cell? Hb=M (Ao Ar id)/\W.cell? (Q Hb 1 I)=M (Ao Ar f)/\W.cell? (Q Hb 2 I)=M (V g n cap)/\W.cell? (Q Hb 3 I)=M (Af (Q g (p*13) I)))/\W.cell? (Q g (p*13) I)=M (y 0)/\∀ q,q<13->W.cell? (Q g (p*13+q) I)=M (y q)):=fun W hW=>by
  have r:=(KH.below hW).r;have z0:=r.cell 0;have z1:=r.cell 1;have z2:=r.cell 2;have z3:=r.cell 3;simp at z0 z1 z2 z3;have hq:∀ q,q<13->W.cell? (Q g (p*13+q) I)=M (y q):=fun q hq=>by
   have h1:=hc q hq;rw[Bq] at h1;exact(hW.cell (A7 h1)).trans h1
  exact⟨⟨z0,z1,z2,z3⟩,hq 0 (by omega),hq⟩
 have KT:H (∀ W,CB 118 #[ndV id f (V g n cap),jIl y] W st):=fun W=>by
  rw[ey,<-k0];exact vM id f _ (S p) _ o0 p0 _ _ q0 r0 W hf
 have hdr:=jD w;have yd:H (y 9=.bool Av):=by
  show y 9=.bool Av;have:=xD ey
  simp at this;rw[<-e0];exact this.2.2.2.2.2.2.2.2.2.1
 have hd:=hd e0;clear e0;have n0:H (∀ W a0,Hr W B Hb id f g n cap p (jAn S p) sa m sc Y a0 F2->Ak prog 153 #[Af Hb,(2:Int)] W fun e w'=>e=Ae (Ah #[])/\∃ c0 d0 b0,Hr w' B Hb id f g n cap p (jAn S p) c0 (m+n3) d0 (syM Y m 2 id (S p).r) a0 b0/\Trn W w' (fun x=>x=Hb\/F2 x)/\∀ x,b0 x->F2 x\/W.1.size<=x):=fun W a0 hW=>by
  have er:(jAn S p p).r=(S p).r:=by unfold jAn;rw[A6 rfl]
  have:=zX 2 id f B Hb g n cap p (jAn S p) sa m sc Y a0 F2 n3 W hW hf hp hm (by rw[er];exact hr) j0
  rw[er] at this;exact this
 clear h hc ey k0 hf hp hr j0;go_enter func112,ntmps112
 go_wp2_with fail
 go_region_held3 (fun w'=>(w'.cell? (Q Hb 0 I)=M (Ao Ar id)/\w'.cell? (Q Hb 1 I)=M (Ao Ar f)/\w'.cell? (Q Hb 2 I)=M (V g n cap)/\w'.cell? (Q Hb 3 I)=M (Af (Q g (p*13) I)))/\w'.cell? (Q g (p*13) I)=M (y 0)/\∀ q,q<13->w'.cell? (Q g (p*13+q) I)=M (y q)) (exact KS _ (by assumption)) ((go_at_call 118;refine Ax (KT _) ?_;rintro e w7 ⟨rfl,h0⟩;have b7:=jC h0;clear h0))
 obtain⟨⟨_,_,_,z3⟩,_,hz⟩:=KS _ b7;have z9:=hz 9 (by omega);have s0:=yd.out;rw[s0] at z9;obtain⟨_,_,f9,_⟩:=(KH.below b7).slotc HP 9 (by omega);obtain⟨w8,g0⟩:=nmH (w7.setCell (Q g (p*13+9) I) Aw);obtain⟨a0,q8,q9,f0⟩:=(KH.below b7).flag HP 9 (by omega) Aw (jOn S p);rw[<-g0.out] at q8 f0;have K8:H (Ab w w w7/\(∀ x,a0 x->F1 x\/w7.1.size<=x)/\Trn w7 w8 F1):=⟨b7,q9,f0⟩;have m0:H _:=n0 w8 a0 q8;clear hz b7 q8 q9 f0;go_wp2_with fail
 rw[<-g0.out];refine Ax m0.out ?_;rintro e w9 ⟨rfl,c0,d0,b0,h9,t9,i0⟩;have KZ:H (∃ c0 d0 a0 b0,Hr w9 B Hb id f g n cap p (jAn S p) c0 (m+n3) d0 (syM Y m 2 id (S p).r) a0 b0/\Trn w w9 (fun x=>x=Hb\/F1 x\/F2 x)/\(∀ x,a0 x->F1 x\/w.1.size<=x)/\∀ x,b0 x->F2 x\/w.1.size<=x):=by
  have s7:=K8.1.size;have s8:=K8.2.2.size;refine⟨c0,d0,a0,b0,h9,((Trn.ofBelow _ K8.1).trans (K8.2.2.mono (fun x k=>.inr (.inl k)))).trans (t9.mono (fun x k=>by rcases k with k|k;exact .inl k;exact .inr (.inr k))),fun x k=>?_,fun x k=>?_⟩
  .rcases K8.out.2.1 x k with k|k
   .exact .inl k
   .exact .inr (by omega)
  .rcases i0 x k with k|k
   .exact .inl k
   .exact .inr (by omega)
 clear h9 t9 i0;go_wp2
 go_end0
 exact⟨rfl,KZ⟩
theorem jDz (id f:Int) (B Hb g n cap p:Nat) (S:Nat->Sl) (sa:OA) (m sc:Nat) (Y:Nat->Sy) (F1 F2:Nat->Prop) (st:Int) (w:Ad) (h:Hr w B Hb id f g n cap p S sa m sc Y F1 F2) (hf:1<=f/\f<=3) (hp:p<n) (k0:stI f (S p).ze.length (S p).zr.length=st) (hn:st<1\/(S p).d=Aw):Ak prog 112 #[Af Hb,(2:Int)] w fun e w'=>e=Ae (Ah #[])/\∃ a0,Hr w' B Hb id f g n cap p (XT S p ((S p).o || decide (2<=st))) sa m sc Y a0 F2/\Trn w w' (fun x=>x=Hb\/F1 x\/F2 x)/\∀ x,a0 x->F1 x\/w.1.size<=x:=by
 obtain⟨b1,o1,y,a6,p0,q0,c6,r0,s0,e1,hc,ey,_,_,_⟩:=vI h.o.rd hp;cases e1;have KH:=hd h;have HP:=hd hp;have KS:H (∀ W,Ab w w W->(W.cell? Hb=M (Ao Ar id)/\W.cell? (Q Hb 1 I)=M (Ao Ar f)/\W.cell? (Q Hb 2 I)=M (V g n cap)/\W.cell? (Q Hb 3 I)=M (Af (Q g (p*13) I)))/\W.cell? (Q g (p*13) I)=M (y 0)/\∀ q,q<13->W.cell? (Q g (p*13+q) I)=M (y q)):=fun W hW=>by
  have r:=(KH.below hW).r;have z0:=r.cell 0;have z1:=r.cell 1;have z2:=r.cell 2;have z3:=r.cell 3;simp at z0 z1 z2 z3;have hq:∀ q,q<13->W.cell? (Q g (p*13+q) I)=M (y q):=fun q hq=>by
   have h1:=hc q hq;rw[Bq] at h1;exact(hW.cell (A7 h1)).trans h1
  exact⟨⟨z0,z1,z2,z3⟩,hq 0 (by omega),hq⟩
 have KT:H (∀ W,CB 118 #[ndV id f (V g n cap),jIl y] W st):=fun W=>by
  rw[ey,<-k0];exact vM id f _ (S p) _ p0 q0 _ _ r0 s0 W hf
 have hdr:=jD w;have yd:H (y 9=.bool (S p).d):=by
  show y 9=.bool (S p).d;have:=xD ey
  simp at this;exact this.2.2.2.2.2.2.2.2.2.1
 have yo:H (y 10=.bool (S p).o):=by
  show y 10=.bool (S p).o;have:=xD ey
  simp at this;exact this.2.2.2.2.2.2.2.2.2.2.1
 obtain⟨bo,h0⟩:=nnH ((S p).o);obtain⟨bn,g0⟩:=nnH (((S p).o || decide (2<=st)));rw[g0.out];clear h hc ey k0 hf hp;go_enter func112,ntmps112
 go_wp2_with fail
 go_region_held3 (fun w'=>(w'.cell? (Q Hb 0 I)=M (Ao Ar id)/\w'.cell? (Q Hb 1 I)=M (Ao Ar f)/\w'.cell? (Q Hb 2 I)=M (V g n cap)/\w'.cell? (Q Hb 3 I)=M (Af (Q g (p*13) I)))/\w'.cell? (Q g (p*13) I)=M (y 0)/\∀ q,q<13->w'.cell? (Q g (p*13+q) I)=M (y q)) (exact KS _ (by assumption)) ((go_at_call 118;refine Ax (KT _) ?_;rintro e w7 ⟨rfl,i0⟩;have b7:=jC i0;clear i0))
 obtain⟨⟨_,_,_,z3⟩,_,hz⟩:=KS _ b7;have d0:=hz 10 (by omega);have t0:=yd.out;have o0:=yo.out;rw[h0.out] at o0;rw[o0] at d0;obtain⟨_,_,f0,_⟩:=(KH.below b7).slotc HP 10 (by omega);obtain⟨w8,b0⟩:=nmH ((w7.setCell (Q g (p*13+10) I) bn).drew);obtain⟨a0,n0,q9,e0⟩:=(KH.below b7).flag HP 10 (by omega) bn (jOl S p bn);have q8:Hr w8 B Hb id f g n cap p (XT S p bn) sa m sc Y a0 F2:=by rw[b0.out];exact n0.below (jD _)
 have m0:Trn w7 w8 F1:=by rw[b0.out];exact e0.trans (Trn.drew _ _)
 have K8:H (Ab w w w7/\(∀ x,a0 x->F1 x\/w7.1.size<=x)/\Trn w7 w8 F1/\Hr w8 B Hb id f g n cap p (XT S p bn) sa m sc Y a0 F2):=⟨b7,q9,m0,q8⟩;have x3:=q8.r.cell 3;simp at x3;obtain⟨v9,x9,g9,r9⟩:=q8.slotc HP 9 (by omega);have e9:v9=.bool (S p).d:=by
  have e:(XT S p bn p).d=(S p).d:=by unfold XT;rw[A6 rfl]
  have:=r9
  simp only[slD,Rd,e] at this;exact this
 rw[e9] at x9;clear hz b7 q8 q9 m0 n0 e0 r9 e9;have KZ:H (∃ a0,Hr w8 B Hb id f g n cap p (XT S p bn) sa m sc Y a0 F2/\Trn w w8 (fun x=>x=Hb\/F1 x\/F2 x)/\∀ x,a0 x->F1 x\/w.1.size<=x):=by
  have s7:=K8.1.size;refine⟨a0,K8.2.2.2,(Trn.ofBelow _ K8.1).trans (K8.2.2.1.mono (fun x k=>.inr (.inl k))),fun x k=>?_⟩;rcases K8.out.2.1 x k with k|k
  .exact .inl k
  .exact .inr (by omega)
 have j0:H ((bo || decide (2<=st))=bn):=by rw[<-h0.out];exact g0
 cases bo with
 | true=>
  obtain rfl:bn=Aw:=by rw[<-j0.out];rfl
  go_upto_region 4 with fail
  go_region
  all_goals
   go_upto_region 5 with fail
   rw[<-b0.out];clear z3 d0 f0;by_cases hs:1<=st
   .have hd:(S p).d=Aw:=by rcases hn with h|h;omega;exact h
    rw[hd] at x9;clear hn;go_wp2
    go_end0
    exact⟨rfl,KZ⟩
   .clear hn x9;go_wp2
    go_end0
    exact⟨rfl,KZ⟩
 | false=>
  have c0:decide (2<=st)=bn:=by rw[<-j0.out];simp
  by_cases h2:2<=st
  .obtain rfl:bn=Aw:=by rw[<-c0];exact Bf h2
   clear c0;go_upto_region 4 with fail
   go_region
   all_goals
    go_upto_region 5 with fail
    rw[<-b0.out];clear z3 d0 f0;by_cases hs:1<=st
    .have hd:(S p).d=Aw:=by rcases hn with h|h;omega;exact h
     rw[hd] at x9;clear hn;go_wp2
     go_end0
     exact⟨rfl,KZ⟩
    .clear hn x9;go_wp2
     go_end0
     exact⟨rfl,KZ⟩
  .obtain rfl:bn=Av:=by rw[<-c0];exact Bh h2
   clear c0;go_upto_region 4 with fail
   go_region
   all_goals
    go_upto_region 5 with fail
    rw[<-b0.out];clear z3 d0 f0;by_cases hs:1<=st
    .have hd:(S p).d=Aw:=by rcases hn with h|h;omega;exact h
     rw[hd] at x9;clear hn;go_wp2
     go_end0
     exact⟨rfl,KZ⟩
    .clear hn x9;go_wp2
     go_end0
     exact⟨rfl,KZ⟩
theorem jD0 (id f:Int) (B Hb g n cap p:Nat) (S:Nat->Sl) (sa:OA) (m sc:Nat) (Y:Nat->Sy) (F1 F2:Nat->Prop) (n3:Nat) (st:Int) (w:Ad) (h:Hr w B Hb id f g n cap p S sa m sc Y F1 F2) (hf:1<=f/\f<=3) (hp:p<n) (w0:stI f (S p).ze.length (S p).zr.length=st) (hs:1<=st) (u0:(S p).d=Av) (hm:m<=1048576) (hr:(S p).r.size<=1048576) (v0:(n3:Int)=3*f+1):Ak prog 112 #[Af Hb,(2:Int)] w fun e w'=>e=Ae (Ah #[])/\∃ c0 d0 b0 a0,Hr w' B Hb id f g n cap p (jAn (XT S p ((S p).o || decide (2<=st))) p) c0 (m+n3) d0 (syM Y m 2 id (S p).r) b0 a0/\Trn w w' (fun x=>x=Hb\/F1 x\/F2 x)/\(∀ x,b0 x->F1 x\/w.1.size<=x)/\∀ x,a0 x->F2 x\/w.1.size<=x:=by
 obtain⟨b1,o1,y,a6,c1,f1,c6,g1,i1,e1,hc,ey,_,_,_⟩:=vI h.o.rd hp;cases e1;have KH:=hd h;have HP:=hd hp;have KS:H (∀ W,Ab w w W->(W.cell? Hb=M (Ao Ar id)/\W.cell? (Q Hb 1 I)=M (Ao Ar f)/\W.cell? (Q Hb 2 I)=M (V g n cap)/\W.cell? (Q Hb 3 I)=M (Af (Q g (p*13) I)))/\W.cell? (Q g (p*13) I)=M (y 0)/\∀ q,q<13->W.cell? (Q g (p*13+q) I)=M (y q)):=fun W hW=>by
  have r:=(KH.below hW).r;have z0:=r.cell 0;have z1:=r.cell 1;have z2:=r.cell 2;have z3:=r.cell 3;simp at z0 z1 z2 z3;have hq:∀ q,q<13->W.cell? (Q g (p*13+q) I)=M (y q):=fun q hq=>by
   have h1:=hc q hq;rw[Bq] at h1;exact(hW.cell (A7 h1)).trans h1
  exact⟨⟨z0,z1,z2,z3⟩,hq 0 (by omega),hq⟩
 have KT:H (∀ W,CB 118 #[ndV id f (V g n cap),jIl y] W st):=fun W=>by
  rw[ey,<-w0];exact vM id f _ (S p) _ c1 f1 _ _ g1 i1 W hf
 have hdr:=jD w;have yd:H (y 9=.bool (S p).d):=by
  show y 9=.bool (S p).d;have:=xD ey
  simp at this;exact this.2.2.2.2.2.2.2.2.2.1
 have yo:H (y 10=.bool (S p).o):=by
  show y 10=.bool (S p).o;have:=xD ey
  simp at this;exact this.2.2.2.2.2.2.2.2.2.2.1
 obtain⟨bo,r0⟩:=nnH ((S p).o);obtain⟨bn,q0⟩:=nnH (((S p).o || decide (2<=st)));rw[q0.out];have hd:=hd u0;clear u0;have a1:H (∀ W b0,Hr W B Hb id f g n cap p (jAn (XT S p bn) p) sa m sc Y b0 F2->Ak prog 153 #[Af Hb,(2:Int)] W fun e w'=>e=Ae (Ah #[])/\∃ c0 d0 a0,Hr w' B Hb id f g n cap p (jAn (XT S p bn) p) c0 (m+n3) d0 (syM Y m 2 id (S p).r) b0 a0/\Trn W w' (fun x=>x=Hb\/F2 x)/\∀ x,a0 x->F2 x\/W.1.size<=x):=fun W b0 hW=>by
  have er:(jAn (XT S p bn) p p).r=(S p).r:=by unfold jAn XT;simp
  have:=zX 2 id f B Hb g n cap p (jAn (XT S p bn) p) sa m sc Y b0 F2 n3 W hW hf hp hm (by rw[er];exact hr) v0
  rw[er] at this;exact this
 clear h hc ey w0 hf hp hr v0;go_enter func112,ntmps112
 go_wp2_with fail
 go_region_held3 (fun w'=>(w'.cell? (Q Hb 0 I)=M (Ao Ar id)/\w'.cell? (Q Hb 1 I)=M (Ao Ar f)/\w'.cell? (Q Hb 2 I)=M (V g n cap)/\w'.cell? (Q Hb 3 I)=M (Af (Q g (p*13) I)))/\w'.cell? (Q g (p*13) I)=M (y 0)/\∀ q,q<13->w'.cell? (Q g (p*13+q) I)=M (y q)) (exact KS _ (by assumption)) ((go_at_call 118;refine Ax (KT _) ?_;rintro e w7 ⟨rfl,s0⟩;have b7:=jC s0;clear s0))
 obtain⟨⟨_,_,_,z3⟩,_,hz⟩:=KS _ b7;have m0:=hz 10 (by omega);have k1:=yd.out;have y0:=yo.out;rw[r0.out] at y0;rw[y0] at m0;obtain⟨_,_,p0,_⟩:=(KH.below b7).slotc HP 10 (by omega);obtain⟨w8,g0⟩:=nmH ((w7.setCell (Q g (p*13+10) I) bn).drew);obtain⟨b0,x0,q9,n0⟩:=(KH.below b7).flag HP 10 (by omega) bn (jOl S p bn);have q8:Hr w8 B Hb id f g n cap p (XT S p bn) sa m sc Y b0 F2:=by rw[g0.out];exact x0.below (jD _)
 have f0:Trn w7 w8 F1:=by rw[g0.out];exact n0.trans (Trn.drew _ _)
 have K8:H (Ab w w w7/\(∀ x,b0 x->F1 x\/w7.1.size<=x)/\Trn w7 w8 F1/\Hr w8 B Hb id f g n cap p (XT S p bn) sa m sc Y b0 F2):=⟨b7,q9,f0,q8⟩;have x3:=q8.r.cell 3;simp at x3;obtain⟨v9,x9,g9,r9⟩:=q8.slotc HP 9 (by omega);have e9:v9=.bool (S p).d:=by
  have e:(XT S p bn p).d=(S p).d:=by unfold XT;rw[A6 rfl]
  have:=r9
  simp only[slD,Rd,e] at this;exact this
 rw[e9,hd.out] at x9;clear hz b7 q8 q9 f0 x0 n0 r9 e9;obtain⟨w9,j0⟩:=nmH (w8.setCell (Q g (p*13+9) I) Aw);obtain⟨i0,q8,q9,f0⟩:=K8.2.2.2.flag HP 9 (by omega) Aw (jOn (XT S p bn) p);rw[<-j0.out] at q8 f0;have K9:H ((∀ x,i0 x->b0 x\/w8.1.size<=x)/\Trn w8 w9 b0):=⟨q9,f0⟩;have o0:H _:=a1 w9 i0 q8;have h0:H (∀ wz c0 d0 a0,Hr wz B Hb id f g n cap p (jAn (XT S p bn) p) c0 (m+n3) d0 (syM Y m 2 id (S p).r) i0 a0->Trn w9 wz (fun x=>x=Hb\/F2 x)->(∀ x,a0 x->F2 x\/w9.1.size<=x)->∃ c0 d0 b0 a0,Hr wz B Hb id f g n cap p (jAn (XT S p bn) p) c0 (m+n3) d0 (syM Y m 2 id (S p).r) b0 a0/\Trn w wz (fun x=>x=Hb\/F1 x\/F2 x)/\(∀ x,b0 x->F1 x\/w.1.size<=x)/\∀ x,a0 x->F2 x\/w.1.size<=x):=fun wz c0 d0 a0 hz tz e0=>by
  have s7:=K8.1.size;have s8:=K8.2.2.1.size;have s9:=K9.2.size;have j1:Trn w w9 (fun x=>x=Hb\/F1 x\/F2 x):=by
   have t8:Trn w w8 (fun x=>x=Hb\/F1 x\/F2 x):=(Trn.ofBelow _ K8.1).trans (K8.2.2.1.mono (fun x k=>.inr (.inl k)));refine⟨K9.2.os.trans t8.os,K9.2.tape.trans t8.tape,K9.2.output.trans t8.output,Bx t8.size K9.2.size,fun j hj hn=>?_⟩;refine(K9.2.block j (Br hj t8.size) (fun k=>?_)).trans (t8.block j hj hn);rcases K8.out.2.1 j k with k|k
   .exact hn (.inr (.inl k))
   .omega
  refine⟨c0,d0,i0,a0,hz,j1.trans (tz.mono (fun x k=>by rcases k with k|k;exact .inl k;exact .inr (.inr k))),fun x k=>?_,fun x k=>?_⟩
  .rcases K9.out.1 x k with k|k
   .rcases K8.out.2.1 x k with k|k
    .exact .inl k
    .exact .inr (by omega)
   .exact .inr (by omega)
  .rcases e0 x k with k|k
   .exact .inl k
   .exact .inr (by omega)
 clear q8 q9 f0;have t0:H ((bo || decide (2<=st))=bn):=by rw[<-r0.out];exact q0
 cases bo with
 | true=>
  obtain rfl:bn=Aw:=by rw[<-t0.out];rfl
  go_upto_region 4 with fail
  go_region
  all_goals
   go_upto_region 5 with fail
   rw[<-g0.out];clear z3 m0 p0;go_wp2_with fail
   rw[<-j0.out];refine Ax o0.out ?_;rintro e wz ⟨rfl,c0,d0,a0,hz,tz,e0⟩;have KZ:H _:=h0 wz c0 d0 a0 hz tz e0;clear hz tz e0;go_wp2
   go_end0
   exact⟨rfl,KZ⟩
 | false=>
  have k0:decide (2<=st)=bn:=by rw[<-t0.out];simp
  by_cases h2:2<=st
  .obtain rfl:bn=Aw:=by rw[<-k0];exact Bf h2
   clear k0;go_upto_region 4 with fail
   go_region
   all_goals
    go_upto_region 5 with fail
    rw[<-g0.out];clear z3 m0 p0;go_wp2_with fail
    rw[<-j0.out];refine Ax o0.out ?_;rintro e wz ⟨rfl,c0,d0,a0,hz,tz,e0⟩;have KZ:H _:=h0 wz c0 d0 a0 hz tz e0;clear hz tz e0;go_wp2
    go_end0
    exact⟨rfl,KZ⟩
  .obtain rfl:bn=Av:=by rw[<-k0];exact Bh h2
   clear k0;go_upto_region 4 with fail
   go_region
   all_goals
    go_upto_region 5 with fail
    rw[<-g0.out];clear z3 m0 p0;go_wp2_with fail
    rw[<-j0.out];refine Ax o0.out ?_;rintro e wz ⟨rfl,c0,d0,a0,hz,tz,e0⟩;have KZ:H _:=h0 wz c0 d0 a0 hz tz e0;clear hz tz e0;go_wp2
    go_end0
    exact⟨rfl,KZ⟩
end Go.Proofs.YtcaejlalnjnifaaGreat
