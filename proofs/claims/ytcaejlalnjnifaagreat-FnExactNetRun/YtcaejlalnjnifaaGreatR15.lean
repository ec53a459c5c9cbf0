import Derived.Test.YtcaejlalnjnifaaGreatR10
import Derived.Test.YtcaejlalnjnifaaGreatR12
set_option maxHeartbeats 8000000
set_option maxRecDepth 2000
open Go.Value renaming slice->V,string->Ag,int->Ao
open Option renaming none->I,some->M
open Go.RowKit renaming Hid->H,Below->Ab
open Go.Addr renaming mk->Q
open Go.Obj renaming cells->J
open Go renaming World->Ad,maxLen->Au
open Go.IntKind renaming i64->Ar
open Bool renaming false->Av,true->Aw
open Go.Proofs.Tryz
open Go.ChangeShapes Go.WideShapes Go.ChangeAt Go.RowKit
namespace Go.Proofs.YtcaejlalnjnifaaGreat
def kOk (k n:Int) (b:BA):Prop:=1<=k/\k<=n/\n<=16/\1<=b.size/\b.size<=2002
instance (k n:Int) (b:BA):Decidable (kOk k n b):=by unfold kOk;exact inferInstance
noncomputable def okP (r:BA) (k n i:Int) (b:BA) (m:Nat) (S:Nat->BA):Bool:=if kOk k n b then pvB r (plf k n i b) i n m S else Av
theorem jAg {r:BA} {k n i:Int} {b:BA} {m:Nat} {S:Nat->BA} (h:¬ kOk k n b):okP r k n i b m S=Av:=A5 h
theorem jKd {r:BA} {k n i:Int} {b:BA} {m:Nat} {S:Nat->BA} (h:kOk k n b):okP r k n i b m S=pvB r (plf k n i b) i n m S:=A6 h
theorem jQf {r x:BA} {i n:Int} {m:Nat} {S:Nat->BA} (h:¬ (0<=i/\i<=n-1)):pvB r x i n m S=Av:=by
 unfold pvB;cases hB:prB x i n m S with
 | false=>rfl
 | true=>
  obtain⟨_,h2,_⟩:=jAl hB;have:=jKr (i:=i) (n:=n) (by omega)
  simp[inT] at this;omega
theorem jNn {k n:Int} (h1:1<=k) (h2:k<=n) (h3:n<=16):qV k n=Aw:=by unfold qV jAp;simp;omega
theorem jE5 (r:BA) (k n i:Int) (b:BA) (a:OA) (m cap:Nat) (S:Nat->BA) (w:Ad) (h:jL w a m S) (hm:m<=1048576) (hL:∀ i,i<m->(S i).size<=Au):CB 159 #[pcV r k n i b (V a m cap)] w (okP r k n i b m S):=by
 obtain⟨sz,g0⟩:∃ sz,b.size=sz:=⟨_,rfl⟩;have c0:Ab w w (w.alloc (J (pcC r k n i b (V a m cap)) 29)):=(Az _ _).alloc (Ay _) _;have d0:=hd c0;by_cases c1:k<1
 .rw[jAg (by unfold kOk;omega)];clear h hL c0;go_enter func159,ntmps159
  go_wp2
  go_ret
  exact⟨rfl,d0⟩
 by_cases c2:n<k
 .rw[jAg (by unfold kOk;omega)];clear h hL c0;go_enter func159,ntmps159
  go_wp2
  go_ret
  exact⟨rfl,d0⟩
 by_cases c3:16<n
 .rw[jAg (by unfold kOk;omega)];clear h hL c0;go_enter func159,ntmps159
  go_wp2
  go_ret
  exact⟨rfl,d0⟩
 by_cases c4:(sz:Int)<1
 .rw[jAg (by unfold kOk;omega)];clear h hL c0;go_enter func159,ntmps159
  go_wp2
  go_ret
  exact⟨rfl,d0⟩
 by_cases c5:2002<(sz:Int)
 .rw[jAg (by unfold kOk;omega)];clear h hL c0;go_enter func159,ntmps159
  go_wp2
  go_ret
  exact⟨rfl,d0⟩
 rw[jKd (by unfold kOk;omega)];obtain⟨w0,f0⟩:=nmH (w.alloc (J (pcC r k n i b (V a m cap)) 29));obtain⟨B,HB⟩:=nmH w.1.size;rw[<-f0.out] at d0 c0;have HR:=jZ f0 HB;have KL:H (∀ W,CB 184 #[k,n,Ao Ar i,b] W (plf k n i b)):=fun W=>QV k n i b W (by omega)
 have KP:H (∀ W,Ab w0 w0 W->CB 183 #[r,(plf k n i b),Ao Ar i,n,V a m cap] W (pvB r (plf k n i b) i n m S)):=fun W hW=>jH3 r (plf k n i b) i n a m cap S W ((h.below c0).below hW) hm hL
 generalize plf k n i b=x at KL KP |-;generalize pvB r x i n m S=ans at KP |-;obtain⟨q0,q1,q2,q3,q4,q5⟩:=HR.c6 0 1 2 3 4 5;have lB:=HR.lt;simp at q0 q1 q2 q3 q4 q5;clear h hL c0;go_enter func159,ntmps159
 go_wp2_with fail
 rw[<-f0.out,<-HB.out];go_region_held3 (fun w'=>w'.cell? (Q B 0 I)=M (Ag r)/\w'.cell? (Q B 1 I)=M (Ao Ar k)/\w'.cell? (Q B 2 I)=M (Ao Ar n)/\w'.cell? (Q B 3 I)=M (Ao Ar i)/\w'.cell? (Q B 4 I)=M (Ag b)/\w'.cell? (Q B 5 I)=M (V a m cap)) (go_keep) ((first|(go_at_call 184;refine Ax (KL _) ?_;rintro e w5 ⟨rfl,e0⟩;have a0:=jC e0;clear e0;have p0:=(a0.cell (p:=B) lB).trans q0;have p1:=(a0.cell (p:=Q B 1 I) lB).trans q1;have p2:=(a0.cell (p:=Q B 2 I) lB).trans q2;have p3:=(a0.cell (p:=Q B 3 I) lB).trans q3;have p4:=(a0.cell (p:=Q B 4 I) lB).trans q4;have p5:=(a0.cell (p:=Q B 5 I) lB).trans q5)|(guard_hyp a0;go_at_call 183;refine Ax (KP _ a0) ?_;rintro e w6 ⟨rfl,hb6⟩;have b0:=jA a0 hb6;have u0:=(b0.cell (p:=B) lB).trans q0;have u1:=(b0.cell (p:=Q B 1 I) lB).trans q1;have u2:=(b0.cell (p:=Q B 2 I) lB).trans q2;have u3:=(b0.cell (p:=Q B 3 I) lB).trans q3;have u4:=(b0.cell (p:=Q B 4 I) lB).trans q4;have u5:=(b0.cell (p:=Q B 5 I) lB).trans q5)))
 all_goals
  go_wp2
  go_ret
  exact⟨rfl,d0.trans ((jA a0 hb6).mono d0.size)⟩
theorem jDx (r:BA) (k n i:Int) (b:BA) (a:OA) (m cap:Nat) (S:Nat->BA) (w:Ad) (h:jL w a m S) (hm:m<=1048576) (hL:∀ i,i<m->(S i).size<=Au):CB 114 #[pcV r k n i b (V a m cap)] w (okP r k n i b m S):=by
 obtain⟨sz,j0⟩:∃ sz,b.size=sz:=⟨_,rfl⟩;have c0:Ab w w (w.alloc (J (pcC r k n i b (V a m cap)) 29)):=(Az _ _).alloc (Ay _) _;have d0:=hd c0;have KO:H (∀ W,CS 155 #[k,n] W (qV k n)):=fun W=>jB5 k n W
 have KI:H (∀ x y z W,CS 43 #[Ao Ar x,Ao Ar y,Ao Ar z] W (inB x y z)):=fun x y z W=>jN x y z W
 cases c1:qV k n with
 | false=>
  rw[jAg (by unfold kOk;intro hk;rw[jNn hk.1 hk.2.1 hk.2.2.1] at c1;cases c1)];rw[c1] at KO;clear h hL c0;go_enter func114,ntmps114
  go_wp2_with (go_at_call 155;refine(KO _).mono ?_;rintro e w' ⟨rfl,hw⟩;obtain rfl:=hw.symm)
  go_ret
  exact⟨rfl,d0⟩
 | true=>
 rw[c1] at KO;obtain⟨k1,k2,k3⟩:=zM c1;have k0:IntKind.i64.wrap (n-1)=n-1:=by rw[A8];omega
 cases c2:inB i 0 (n-1) with
 | false=>
  rw[show okP r k n i b m S=Av by unfold okP;rw[jQf (by simp[inB] at c2;omega)];simp];have e0:H (∀ W,CS 43 #[Ao Ar i,(),(n-1:Int)] W Av):=fun W=>by have:=KI i 0 (n-1) W;rw[c2] at this;exact this
  clear h hL c0 k1 k2 k3;go_enter func114,ntmps114
  go_wp2_with (first|(go_at_call 155;refine(KO _).mono ?_;rintro e w' ⟨rfl,hw⟩;obtain rfl:=hw.symm)|(go_at_call 43;refine(e0 _).mono ?_;rintro e w' ⟨rfl,hw⟩;obtain rfl:=hw.symm))
  go_ret
  exact⟨rfl,d0⟩
 | true=>
 have e0:H (∀ W,CS 43 #[Ao Ar i,(),(n-1:Int)] W Aw):=fun W=>by have:=KI i 0 (n-1) W;rw[c2] at this;exact this
 cases c3:inB (sz:Int) 1 2002 with
 | false=>
  rw[jAg (by unfold kOk;simp[inB] at c3;omega)];have h0:H (∀ W,CS 43 #[(sz:Int),(1:Int),(2002:Int)] W Av):=fun W=>by have:=KI (sz:Int) 1 2002 W;rw[c3] at this;exact this
  clear h hL c0 k1 k2 k3;go_enter func114,ntmps114
  go_wp2_with fail
  refine(KO _).mono ?_;rintro e w' ⟨rfl,hw⟩;obtain rfl:=hw.symm;clear hw;go_wp2_with fail
  refine(e0 _).mono ?_;rintro e w' ⟨rfl,hw⟩;obtain rfl:=hw.symm;clear hw;go_wp2_with fail
  refine(h0 _).mono ?_;rintro e w' ⟨rfl,hw⟩;obtain rfl:=hw.symm;clear hw;go_wp2
  go_ret
  exact⟨rfl,d0⟩
 | true=>
 have h0:H (∀ W,CS 43 #[(sz:Int),(1:Int),(2002:Int)] W Aw):=fun W=>by have:=KI (sz:Int) 1 2002 W;rw[c3] at this;exact this
 have i0:1<=sz/\sz<=2002:=by simp[inB] at c3;omega
 rw[jKd (by unfold kOk;omega)];obtain⟨w0,g0⟩:=nmH (w.alloc (J (pcC r k n i b (V a m cap)) 29));obtain⟨B,HB⟩:=nmH w.1.size;rw[<-g0.out] at d0 c0;have HR:=jZ g0 HB;have KL:H (∀ W,CB 157 #[k,n,Ao Ar i,b] W (plf k n i b)):=fun W=>JR k n i b W (by omega)
 have KP:H (∀ W,Ab w0 w0 W->CB 156 #[r,(plf k n i b),Ao Ar i,n,V a m cap] W (pvB r (plf k n i b) i n m S)):=fun W hW=>jFg r (plf k n i b) i n a m cap S W ((h.below c0).below hW) hm hL
 generalize plf k n i b=x at KL KP |-;generalize pvB r x i n m S=ans at KP |-;obtain⟨q0,q1,q2,q3,q4,q5⟩:=HR.c6 0 1 2 3 4 5;have lB:=HR.lt;simp at q0 q1 q2 q3 q4 q5;clear h hL c0 k1 k2 k3 i0 KI;go_enter func114,ntmps114
 go_wp2_with fail
 refine(KO _).mono ?_;rintro e w' ⟨rfl,hw⟩;obtain rfl:=hw.symm;clear hw;go_wp2_with fail
 refine(e0 _).mono ?_;rintro e w' ⟨rfl,hw⟩;obtain rfl:=hw.symm;clear hw;go_wp2_with fail
 refine(h0 _).mono ?_;rintro e w' ⟨rfl,hw⟩;obtain rfl:=hw.symm;clear hw;go_wp2_with fail
 rw[<-g0.out,<-HB.out];go_region_held3 (fun w'=>w'.cell? (Q B 0 I)=M (Ag r)/\w'.cell? (Q B 1 I)=M (Ao Ar k)/\w'.cell? (Q B 2 I)=M (Ao Ar n)/\w'.cell? (Q B 3 I)=M (Ao Ar i)/\w'.cell? (Q B 4 I)=M (Ag b)/\w'.cell? (Q B 5 I)=M (V a m cap)) (go_keep) ((first|(go_at_call 157;refine Ax (KL _) ?_;rintro e w5 ⟨rfl,f0⟩;have a0:=jC f0;clear f0;have p0:=(a0.cell (p:=B) lB).trans q0;have p1:=(a0.cell (p:=Q B 1 I) lB).trans q1;have p2:=(a0.cell (p:=Q B 2 I) lB).trans q2;have p3:=(a0.cell (p:=Q B 3 I) lB).trans q3;have p4:=(a0.cell (p:=Q B 4 I) lB).trans q4;have p5:=(a0.cell (p:=Q B 5 I) lB).trans q5)|(guard_hyp a0;go_at_call 156;refine Ax (KP _ a0) ?_;rintro e w6 ⟨rfl,hb6⟩;have b0:=jA a0 hb6;have u0:=(b0.cell (p:=B) lB).trans q0;have u1:=(b0.cell (p:=Q B 1 I) lB).trans q1;have u2:=(b0.cell (p:=Q B 2 I) lB).trans q2;have u3:=(b0.cell (p:=Q B 3 I) lB).trans q3;have u4:=(b0.cell (p:=Q B 4 I) lB).trans q4;have u5:=(b0.cell (p:=Q B 5 I) lB).trans q5)))
 all_goals
  go_wp2
  go_ret
  exact⟨rfl,d0.trans ((jA a0 hb6).mono d0.size)⟩
end Go.Proofs.YtcaejlalnjnifaaGreat
