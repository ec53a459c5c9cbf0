import Derived.Test.YtcaejlalnjnifaaGreatP34
set_option maxHeartbeats 8000000
set_option maxRecDepth 2000
open Go.Value renaming slice->V,pointer->Af,string->Ag,agg->Ai,int->Ao,oneCell'->Aq
open Option renaming none->I,some->M
open Go.RowKit renaming Hid->H,Below->Ab
open Go.Addr renaming mk->Q
open Go renaming undef->O,World->Ad,Value->Aj,Calls->Ak,maxLen->Au
open Go.Obj renaming cells->J
open Go.Proofs.Tryz renaming prog->Ac
open Go.Ending renaming returned->Ae
open ByteArray renaming empty->Ap
open Go.IntKind renaming i64->Ar
open Bool renaming false->Av,true->Aw
open Go.Proofs.Tryz
open Go.ChangeShapes Go.WideShapes Go.ChangeAt Go.RowKit
namespace Go.Proofs.YtcaejlalnjnifaaGreat
def slR (r:BA):Sl:=⟨r,⟨Ap,0,0,0,Ap,0,fun _=>Ap⟩,Av,Av,Av,Av,[],[]⟩
abbrev jB7 (r:BA):Array Aj:=#[Ag r,Ag ⟨#[]⟩,Ao Ar 0,Ao Ar 0,Ao Ar 0,Ag ⟨#[]⟩,V I 0 0,.bool Av,.bool Av,.bool Av,.bool Av,V I 0 0,V I 0 0]
def hrN (S:Nat->Sl) (r:BA) (n:Nat):Nat:=if (plc S r n).isSome then n else n+1
def slF (S:Nat->Sl) (r:BA) (n i:Nat):Sl:=if i=n then slR r else S i
theorem jOa {W:Ad} {B:Nat} {r:BA} (q:Nat) (hq:q<13):Ow W B (slD (slR r) q) ((jB7 r).toList.getD q O) (fun _=>False):=by
 match q,hq with
 | 0,_|1,_|2,_|3,_|4,_|5,_|7,_|8,_|9,_|10,_=>rfl
 | 6,_|11,_|12,_=>exact Ow.nil _ _ _ _ _ _
structure NwT (T:TypeId) (xx:List Aj) (W:Ad) (B Nb:Nat) (id f:Int) (g n cap:Nat) (S:Nat->Sl) (F1:Nat->Prop):Prop where
 r:Row W Nb T (Ao Ar id::Ao Ar f::V (M ⟨g,0,I⟩) n cap::xx).toArray
 o:Ow W B (qG n S) (V (M ⟨g,0,I⟩) n cap) F1
 h1:¬ F1 Nb
 b:B<=Nb/\B<=W.1.size
 l1:∀ x,F1 x->B<=x/\x<W.1.size
theorem NwT.below {T:TypeId} {xx:List Aj} {W W':Ad} {B Nb:Nat} {id f:Int} {g n cap:Nat} {S:Nat->Sl} {F1:Nat->Prop} (h:NwT T xx W B Nb id f g n cap S F1) (hb:Ab W W W'):NwT T xx W' B Nb id f g n cap S F1:=
 ⟨h.r.below hb h.r.lt,h.o.below hb,h.h1,⟨h.b.1,Bx h.b.2 hb.size⟩,fun x hx=>⟨(h.l1 x hx).1,Br (h.l1 x hx).2 hb.size⟩⟩
abbrev Nw:=NwT 26 []
theorem Row.three {T:TypeId} {xx:List Aj} {W:Ad} {Nb:Nat} {a b c:Aj} (h:Row W Nb T (a::b::c::xx).toArray) (x:Aj):Row (W.setCell (Q Nb 2 I) x) Nb T (a::b::x::xx).toArray:=by
 have:=h.set 2 x
 simpa using this
theorem Row.mid {T:TypeId} {xx:List Aj} {W:Ad} {Nb:Nat} {a b c:Aj} (h:Row W Nb T (a::b::c::xx).toArray):W.rangeAt Nb 0 [a,b,c]:=fun j v hv=>by
 have h1:=h.cell j;rw[Bq,h1];match j,hv with
 | 0,hv=>simpa using hv
 | 1,hv=>simpa using hv
 | 2,hv=>simpa using hv
 | j+3,hv=>simp at hv
theorem jD3 {S:Nat->Sl} {n:Nat} {r:BA} (i q:Nat) (_hi:i<n+1):(if i=n then slD (slR r) else slD (S i)) q=slD (slF S r n i) q:=by
 unfold slF;by_cases e:i=n
 .rw[A6 e,A6 e]
 .rw[A5 e,A5 e]
theorem jK8 {T:TypeId} {xx:List Aj} {e0:Array Oper} {o:Oper} {a:Act} {K:Act->Ad->Prop} {Q:Exit->Act->Ad->Prop} {E:Prop} (w7:Ad) (a0:o.guard=I) (s x:Operand)
  (ho:o.op=.call {callee:=.builtin .append,args:=#[s,x],argTypes:=#[24,24]})
  (id f:Int) (B Nb g n cap:Nat) (S:Nat->Sl) (r:ByteArray) (F1:Nat->Prop)
  (hs:a.eval s=V (M ⟨g,0,I⟩) n cap) (hx:a.eval x=V (M ⟨w7.1.size,0,I⟩) 1 1)
  (h7:NwT T xx (w7.alloc (J (jB7 r) 42)) B Nb id f g n cap S F1) (hm:n<=2000000)
  (h:∀ g8 c8 w8 F8,Row w8 Nb T (Ao Ar id::Ao Ar f::V (M ⟨g,0,I⟩) n cap::xx).toArray/\NwT T xx (w8.setCell ⟨Nb,2,I⟩ (V (M ⟨g8,0,I⟩) (n+1) c8)) B Nb id f g8 (n+1) c8 (slF S r n) F8/\Trn (w7.alloc (J (jB7 r) 42)) (w8.setCell ⟨Nb,2,I⟩ (V (M ⟨g8,0,I⟩) (n+1) c8)) (fun x=>x=Nb\/F1 x)/\(∀ x,F8 x->F1 x\/w7.1.size<x)->K (a.put o.dst (V (M ⟨g8,0,I⟩) (n+1) c8)) w8) :
  if Region.wanted o (yielded e0 a.tmps)=Aw then Oper.wp Ac o a (w7.alloc (J (jB7 r) 42)) K Q else E:=by
 obtain⟨i0,hi,b0,c0,d0⟩:=Ch Tryz.infoSlZ;refine jD4 _ a0 s x 24 ho B 42 i0 (Ai zcS.toArray) 13 _ Tryz.underlying24 hi b0 c0 d0 rfl (by decide) (V (M ⟨g,0,I⟩) n cap) n _ F1 hs h7.o ⟨w7.1.size,0,I⟩ 1 (jB7 r).toList hx rfl (Cf (t:=42) (fr:=(0,0)) (Row.new w7 _ _)) (by simp[Aq]) (slD (slR r)) (fun _ _=>False) (fun q hq=>jOa q hq) (fun _ _ _ h=>h.elim) (fun _ _ _ _ _ h=>h.elim) (by unfold Au;omega) (by omega) h7.b.2 fun g8 c8 w8 O8 b8 T8=>?_
 have e:(w7.alloc (J (jB7 r) 42)).1.size=w7.1.size+1:=by simp
 have O9:Ow w8 B (qG (n+1) (slF S r n)) (V (M ⟨g8,0,I⟩) (n+1) c8) (fun x=>x<w8.1.size/\(F1 x\/w7.1.size<x)):=(O8.mono (fun x hx=>⟨hx.1,by
  rcases hx.2 with (h|⟨_,_,h⟩)|h
  .exact .inl h
  .exact h.elim
  .rw[e] at h;exact .inr h⟩)).congr (fun i q hi _=>jD3 i q hi)
 have hr:Row w8 Nb T (Ao Ar id::Ao Ar f::V (M ⟨g,0,I⟩) n cap::xx).toArray:=(T8.block Nb h7.r.lt h7.h1).trans h7.r;have h8:¬ (Nb<w8.1.size/\(F1 Nb\/w7.1.size<Nb)):=fun k=>by
  rcases k.2 with k|k
  .exact h7.h1 k
  .have:=h7.r.lt;omega
 exact h g8 c8 w8 _ ⟨hr,⟨hr.three _,O9.far 2 _ h8,h8,⟨h7.b.1,by simpa using Bx h7.b.2 T8.size⟩,fun x k=>⟨by rcases k.2 with k|k;exact(h7.l1 x k).1;have:=h7.b.2;omega,by simpa using k.1⟩⟩,(T8.mono (fun _ k=>.inr k)).trans (Trn.set _ 2 _ (.inl rfl)),fun x hx=>hx.2⟩
theorem jFc {T:TypeId} {xx:List Aj} (id f:Int) (B Nb g n cap:Nat) (S:Nat->Sl) (r:BA) (F1:Nat->Prop) (w:Ad) (h:NwT T xx w B Nb id f g n cap S F1) (hn:n<=1048576) (hr:r.size<=1048576):Ak prog 111 #[Af Nb,r] w fun e w'=>∃ g' d0 b0,e=Ae (Af (Q g' (plN S r n*13) I))/\NwT T xx w' B Nb id f g' (hrN S r n) d0 (slF S r n) b0/\Trn w w' (fun x=>x=Nb\/F1 x)/\∀ x,b0 x->F1 x\/w.1.size<=x:=by
 have KH:=hd h;have KP:H _:=JW id f g n cap S r w h.o.rd hn;have KC:H (∀ W,CB 120 #[r] W r):=fun W=>qN r W hr
 have RN:H _:=h.r.mid;cases hp:plc S r n with
 | some x=>
  have ex:H (plX S r n=(x:Int)/\plN S r n=x/\hrN S r n=n):=⟨by unfold plX;rw[hp],by unfold plN;rw[hp],by unfold hrN;rw[hp];rfl⟩;obtain⟨_,hx,_,_⟩:=xA hp;have k0:x<n:=by omega
  have j0:(x:Int)<(n:Int):=by omega
  rw[ex.out.1] at KP;rw[ex.out.2.1,ex.out.2.2];have nx:¬ ((x:Int)<0):=by omega
  clear h hp hx;go_enter func111,ntmps111
  go_wp2_with (refine Bv rfl 26 _ rfl Nb 0 rfl [id,f,V g n cap] _ ?_ Cg rfl Tryz.infoNd ?_;exact RN)
  refine Ax KP.out ?_;rintro e w1 ⟨rfl,b1⟩;have K1:=hd (KH.below b1);have y2:=K1.r.cell 2;simp at y2;have KZ:H (NwT T xx w1 B Nb id f g n cap (slF S r n) F1/\Trn w w1 (fun x=>x=Nb\/F1 x)/\∀ x,F1 x->F1 x\/w.1.size<=x):=⟨⟨K1.r,K1.o.congr (fun i q hi _=>by show _=slD (slF S r n i) q;unfold slF;rw[A5 (by omega)]),K1.out.h1,K1.out.b,K1.out.l1⟩,Trn.ofBelow _ b1,fun _ h=>.inl h⟩;clear b1;go_wp2
  go_ret
  exact⟨g,cap,F1,rfl,KZ⟩
 | none=>
  have ex:H (plX S r n = -1/\plN S r n=n/\hrN S r n=n+1):=⟨by unfold plX;rw[hp],by unfold plN;rw[hp],by unfold hrN;rw[hp];rfl⟩;rw[ex.out.1] at KP;rw[ex.out.2.1,ex.out.2.2];clear h hp;go_enter func111,ntmps111
  go_wp2_with (refine Bv rfl 26 _ rfl Nb 0 rfl [id,f,V g n cap] _ ?_ Cg rfl Tryz.infoNd ?_;exact RN)
  refine Ax KP.out ?_;rintro e w1 ⟨rfl,b1⟩;have K1:H (NwT T xx w1 B Nb id f g n cap S F1/\Ab w w w1):=⟨KH.below b1,b1⟩;have y2:=K1.1.r.cell 2;have f2:=K1.1.r.free 2;simp at y2;clear b1;have e0:H (∀ w7,Ab w1 w1 w7->NwT T xx (w7.alloc (J (jB7 r) 42)) B Nb id f g n cap S F1/\Ab w1 w1 (w7.alloc (J (jB7 r) 42))/\Nb<w7.1.size/\w7.cell? (Q Nb 2 I)=M (V g n cap)):=fun w7 b7=>by
   have b8:Ab w7.1.size w7 (w7.alloc (J (jB7 r) 42)):=(Az _ _).alloc (Ay _) _;have q2:=(K1.1.below b7).r.cell 2;simp at q2;exact⟨(K1.1.below b7).below b8,jA b7 b8,(K1.1.below b7).r.lt,q2⟩
  go_upto_region 4 with fail
  go_region_law ((first|(guard_hyp K7;refine jK8 (T:=T) (xx:=xx) w7 rfl _ _ rfl id f B Nb g n cap S r F1 rfl rfl ?_ ?_ ?_;exact K7.1;omega;intro g8 c8 w8 F8 a0;have K8:H _:=a0;have z2:=a0.1.cell 2;have zf:=a0.1.free 2;simp at z2;clear a0)|(go_simp;go_wp2_with (go_at_call 120;refine Ax (KC _) ?_;rintro e w7 ⟨rfl,b7'⟩;have b7:=jC b7';clear b7';have K7:H _:=e0.out _ b7;have m0:=K7.2.2.1;have p2:=K7.2.2.2;have q2:=K7.1.r.cell 2;simp at q2))))
  all_goals
   have KR:H (NwT T xx (w8.setCell (Q Nb 2 I) (V g8 (n+1) c8)) B Nb id f g8 (n+1) c8 (slF S r n) F8/\Trn w (w8.setCell (Q Nb 2 I) (V g8 (n+1) c8)) (fun x=>x=Nb\/F1 x)/\∀ x,F8 x->F1 x\/w.1.size<=x):=by
    obtain⟨_,q,t,f0⟩:=K8.out;have h0:=K7.2.1.size;have i0:=K1.2.size;have e:(w7.alloc (J (jB7 r) 42)).1.size=w7.1.size+1:=by simp
    refine⟨q,((Trn.ofBelow _ K1.2).trans (Trn.ofBelow _ K7.2.1)).trans t,fun x hx=>?_⟩;rcases f0 x hx with h|h
    .exact .inl h
    .exact .inr (by omega)
   obtain⟨w9,c0⟩:=nmH (w8.setCell (Q Nb 2 I) (V g8 (n+1) c8));rw[<-c0.out] at KR;have y9:=KR.1.r.cell 2;simp at y9;have g0:(n:Int)<((n+1:Nat):Int):=by omega
   clear z2 zf;go_upto_region 5 with fail
   rw[<-c0.out];go_wp2
   go_ret
   exact⟨g8,c8,F8,rfl,KR⟩
end Go.Proofs.YtcaejlalnjnifaaGreat
