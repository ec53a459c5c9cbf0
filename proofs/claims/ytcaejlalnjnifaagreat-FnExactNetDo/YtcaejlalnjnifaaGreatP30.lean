import Derived.Test.YtcaejlalnjnifaaGreatP25
import Derived.Lib.QuietBelow
import Derived.Deep.CutRange
set_option maxHeartbeats 8000000
set_option maxRecDepth 2000
open Go.Value renaming slice->V,string->Ag,agg->Ai,int->Ao
open Option renaming none->I,some->M
open Go.RowKit renaming Hid->H,Below->Ab
open Go.Addr renaming mk->Q
open Go.Obj renaming cells->J
open Go.Proofs.Tryz renaming prog->Ac
open Go renaming World->Ad,Value->Aj,Calls->Ak,Addr->Al,maxLen->Au
open Go.Ending renaming returned->Ae
open Go.IntKind renaming i64->Ar
open Bool renaming false->Av,true->Aw
open Go.Proofs.Tryz
open Go.ChangeShapes Go.WideShapes Go.ChangeAt Go.RowKit
namespace Go.Proofs.YtcaejlalnjnifaaGreat
theorem jAj (f:Int) (a:OA) (n cap:Nat) (zs:List Int) (w:Ad) (h:jH w a n zs) (hf:1<=f/\f<=3) (hn:n<=1048576):CB 60 #[V a n cap,f] w (JH f zs):=by
 have KI:H (jH w a n zs):=h;have hl:zs.length=n:=h.1;have KA:H (∀ W,CS 50 #[f] W (3*f+1:Int)):=fun W=>vQ f W hf
 obtain⟨m,HM⟩:∃ m:Int,H (3*f+1=m):=⟨_,rfl⟩;rw[HM.out] at KA;have HF:H (1<=f/\f<=3):=hf;have em:IntKind.i64.wrap (m-1)=3*f:=by have:=HM.out;rw[A8];omega
 obtain⟨m1,b0⟩:∃ m1:Int,H (3*f=m1):=⟨_,rfl⟩;rw[b0.out] at em;clear h hf;go_enter func60,ntmps60
 go_wp2
 go_loopw [5] (fun vi wr=>∃ k:Nat,k<=n/\vi=Ao Ar (k:Int)/\H (∀ i,i<k->(0<=zs.getD i 0/\zs.getD i 0<3*f+1)/\(0<i->zs.getD (i-1) 0<zs.getD i 0))/\Ab w w wr) (fun vi _=>n-(intOf vi).toNat)
 case atStart=>exact⟨0,Bi _,rfl,fun i hi=>Bo hi (Bk _),Az _ _⟩
 case round=>
  obtain⟨k,hk,rfl,HP,hbel⟩:=hrel;by_cases hlt:k<n
  .have j0:(k:Int)<(n:Int):=by omega
   obtain⟨b,off,rfl,hc⟩:=(KI.below hbel).some (by omega);have c0:=hc k hlt;obtain⟨z,HZ⟩:=nnH (zs.getD k 0);rw[HZ.out] at c0;by_cases hz:0<=z/\z<3*f+1
   case neg=>
    have f0:inB z 0 m1=Av:=by have:=b0.out;unfold inB;simp;omega
    have HN:H (JH f zs=Av):=ZY fun h=>hz (by have:=(h k (by omega)).1;rw[HZ.out] at this;exact this)
    clear hc hz HP;go_wp2_with fail
    go_quiet (first|(go_at_call 50;exact Ce (KA _))|(go_at_call 43;exact Ce (jM _ _ _ _)))
    go_wp2
    go_ret
    exact⟨jQ HN.symm,Cy hbel _⟩
   have f0:inB z 0 m1=Aw:=by have:=b0.out;unfold inB;simp;omega
   by_cases k0:k=0
   .subst k0;have HP2:H (∀ i,i<0+1->(0<=zs.getD i 0/\zs.getD i 0<3*f+1)/\(0<i->zs.getD (i-1) 0<zs.getD i 0)):=fun i hi=>by
     obtain rfl:i=0:=by omega
     rw[HZ.out];exact⟨hz,fun h=>Bo h (by omega)⟩
    simp only[Cp] at c0;clear hc hz HP;go_wp2_with fail
    go_quiet (first|(go_at_call 50;exact Ce (KA _))|(go_at_call 43;exact Ce (jM _ _ _ _)))
    go_wp2
    go_roundw
    case rel=>exact⟨0+1,by omega,by go_num,HP2,Cy hbel _⟩
    case measure=>simp[intOf];omega
   .have g0:0<k:=by omega
    have m0:decide (0<k)=Aw:=Bf g0;have d0:=hc (k-1) (by omega);obtain⟨k1,a0⟩:∃ k1,H (k=k1+1):=⟨k-1,by show k=_;omega⟩;have e1:IntKind.i64.wrap ((k:Int)-1)=(k1:Int):=by have:=a0.out;rw[A8];omega
    have h0:(k1:Int)<(n:Int):=by have:=a0.out;omega
    have i0:(0:Int)<=(k1:Int):=by omega
    rw[show k-1=k1 by have:=a0.out;omega] at d0;obtain⟨y,HY⟩:=nnH (zs.getD k1 0);rw[HY.out] at d0;by_cases hyz:y<z
    .have e0:¬ (z<=y):=by omega
     have HP2:H (∀ i,i<k+1->(0<=zs.getD i 0/\zs.getD i 0<3*f+1)/\(0<i->zs.getD (i-1) 0<zs.getD i 0)):=fun i hi=>by
      by_cases ei:i=k
      .subst ei;rw[show i-1=k1 by have:=a0.out;omega,HZ.out,HY.out];exact⟨hz,fun _=>hyz⟩
      .exact HP i (by omega)
     clear hc hz HP hyz;go_wp2_with fail
     go_quiet (first|(go_at_call 50;exact Ce (KA _))|(go_at_call 43;exact Ce (jM _ _ _ _)))
     go_wp2
     go_roundw
     case rel=>exact⟨k+1,by omega,by go_num,HP2,Cy hbel _⟩
     case measure=>simp[intOf];omega
    .have e0:z<=y:=by omega
     have HN:H (JH f zs=Av):=ZY fun h=>by
      have:=(h k (by omega)).2 (by omega)
      rw[show k-1=k1 by have:=a0.out;omega,HZ.out,HY.out] at this;omega
     clear hc hz HP hyz;go_wp2_with fail
     go_quiet (first|(go_at_call 50;exact Ce (KA _))|(go_at_call 43;exact Ce (jM _ _ _ _)))
     go_wp2
     go_ret
     exact⟨jQ HN.symm,Cy hbel _⟩
  .obtain rfl:k=n:=by omega
   have HN:H (JH f zs=Aw):=JI fun i hi=>HP i (by omega)
   go_wp2
   go_ret
   exact⟨jQ HN.symm,hbel⟩
def jIg (root:BA) (id f:Int) (r:BA) (k n i:Int):Prop:=r=root/\k=f+1/\n=3*f+1/\i=id
instance (root:BA) (id f:Int) (r:BA) (k n i:Int):Decidable (jIg root id f r k n i):=by unfold jIg;infer_instance
noncomputable def vS (root:BA) (id f:Int) (r:BA) (k n i:Int) (b:BA) (m:Nat) (S:Nat->BA):Bool:=if jIg root id f r k n i then okP r k n i b m S else Av
theorem vY {a0:BA} {id f:Int} {r:BA} {k n i:Int} {b:BA} {m:Nat} {S:Nat->BA} (h:¬ jIg a0 id f r k n i):vS a0 id f r k n i b m S=Av:=A5 h
theorem jDe {a0:BA} {id f:Int} {r:BA} {k n i:Int} {b:BA} {m:Nat} {S:Nat->BA} (h:jIg a0 id f r k n i):vS a0 id f r k n i b m S=okP r k n i b m S:=A6 h
theorem jDr (c0:BA) (id f:Int) (r:BA) (k n i:Int) (b:BA) (a:OA) (m cap:Nat) (S:Nat->BA) (w:Ad) (h:jK w a m S) (hf:1<=f/\f<=3) (hm:m<=1048576) (hL:∀ i,i<m->(S i).size<=Au):CB 51 #[pcV r k n i b (V a m cap),c0,id,f] w (vS c0 id f r k n i b m S):=by
 have KA:H (∀ W,CS 50 #[f] W (3*f+1:Int)):=fun W=>vQ f W hf
 obtain⟨x,HX⟩:∃ x:Int,H (3*f+1=x):=⟨_,rfl⟩;rw[HX.out] at KA;obtain⟨y,HY⟩:∃ y:Int,H (f+1=y):=⟨_,rfl⟩;have ey:IntKind.i64.wrap (f+1)=y:=by have:=HY.out;rw[A8];omega
 have e0:Ab w w (w.alloc (J (pcC r k n i b (V a m cap)) 29)):=(Az _ _).alloc (Ay _) _;have d0:=hd e0;obtain⟨w0,a0⟩:=nmH (w.alloc (J (pcC r k n i b (V a m cap)) 29));obtain⟨B,HB⟩:=nmH w.1.size;have HR:=jZ a0 HB;have KP:H (∀ W,Ab w0 w0 W->CB 114 #[pcV r k n i b (V a m cap)] W (okP r k n i b m S)):=fun W hW=>jDs r k n i b a m cap S W ((h.below e0).below (by rw[<-a0.out];exact hW)) hm hL
 rw[<-a0.out] at d0;have q0:=HR.cell 0;have q1:=HR.cell 1;have q2:=HR.cell 2;have q3:=HR.cell 3;have q4:=HR.cell 4;have q5:=HR.cell 5;have lB:=HR.lt;simp at q0 q1 q2 q3 q4 q5;clear h e0 hf hL hm;by_cases c1:r=c0
 case neg=>
  rw[vY (fun h=>c1 h.1)];have f0:=jEe c1;go_enter func51,ntmps51
  go_wp2_with fail
  rw[<-a0.out,<-HB.out];go_quiet (fail)
  go_wp2
  go_ret
  exact⟨rfl,Cy d0 _⟩
 have f0:=vC c0;by_cases c2:k=y
 case neg=>
  rw[vY (fun h=>c2 (h.2.1.trans HY.out))];have g0:(k==y)=Av:=by simp[c2]
  subst c1;go_enter func51,ntmps51
  go_wp2_with fail
  rw[<-a0.out,<-HB.out];go_quiet (fail)
  go_wp2
  go_ret
  exact⟨rfl,Cy d0 _⟩
 have g0:(k==y)=Aw:=by simp[c2]
 by_cases c3:n=x
 case neg=>
  rw[vY (fun h=>c3 (h.2.2.1.trans HX.out))];have h0:(n==x)=Av:=by simp[c3]
  subst c1;clear c2;go_enter func51,ntmps51
  go_wp2_with fail
  rw[<-a0.out,<-HB.out];go_quiet ((go_at_call 50;exact Ce (KA _)))
  go_wp2
  go_ret
  exact⟨rfl,Cy d0 _⟩
 have h0:(n==x)=Aw:=by simp[c3]
 by_cases c4:i=id
 case neg=>
  rw[vY (fun h=>c4 h.2.2.2)];have i0:(i==id)=Av:=by simp[c4]
  subst c1;clear c2 c3;go_enter func51,ntmps51
  go_wp2_with fail
  rw[<-a0.out,<-HB.out];go_quiet ((go_at_call 50;exact Ce (KA _)))
  go_wp2
  go_ret
  exact⟨rfl,Cy d0 _⟩
 have i0:(i==id)=Aw:=by simp[c4]
 rw[jDe ⟨c1,c2.trans HY.out.symm,c3.trans HX.out.symm,c4⟩];subst c1;clear c2 c3 c4;go_enter func51,ntmps51
 go_wp2_with fail
 rw[<-a0.out,<-HB.out];go_region_held3 (fun w'=>w'.cell? (Q B 0 I)=M (Ag r)/\w'.cell? (Q B 1 I)=M (Ao Ar k)/\w'.cell? (Q B 2 I)=M (Ao Ar n)/\w'.cell? (Q B 3 I)=M (Ao Ar i)/\w'.cell? (Q B 4 I)=M (Ag b)/\w'.cell? (Q B 5 I)=M (V a m cap)) (go_keep) ((first|(go_at_call 50;refine Ax (KA _) ?_;rintro e w8 ⟨rfl,rfl⟩)|(go_at_call 114;refine Ax (KP _ (Cy (Az _ _) _)) ?_;rintro e w9 ⟨rfl,hb9'⟩;have b0:=jC hb9';clear hb9';have p0:=(b0.cell (p:=B) lB).trans q0;have p1:=(b0.cell (p:=Q B 1 I) lB).trans q1;have p2:=(b0.cell (p:=Q B 2 I) lB).trans q2;have p3:=(b0.cell (p:=Q B 3 I) lB).trans q3;have p4:=(b0.cell (p:=Q B 4 I) lB).trans q4;have p5:=(b0.cell (p:=Q B 5 I) lB).trans q5)))
 all_goals
  go_wp2
  go_ret
  exact⟨rfl,jA d0 b0⟩
theorem jBw (d0:BA) (id f:Int) (v:Aj) (r:BA) (k n i:Int) (b:BA) (a:OA) (m cap:Nat) (S:Nat->BA) (w:Ad) (h:jK w a m S) (hf:1<=f/\f<=3) (hm:m<=1048576) (hL:∀ i,i<m->(S i).size<=Au):CB 119 #[ndV id f v,pcV r k n i b (V a m cap),d0] w (vS d0 id f r k n i b m S):=by
 have KA:H (∀ W,CS 72 #[f] W (3*f+1:Int)):=fun W=>vG f W hf
 have KN:H (∀ W,CS 158 #[f] W (f+1:Int)):=fun W=>QS f W hf
 obtain⟨x,HX⟩:∃ x:Int,H (3*f+1=x):=⟨_,rfl⟩;rw[HX.out] at KA;obtain⟨y,HY⟩:∃ y:Int,H (f+1=y):=⟨_,rfl⟩;rw[HY.out] at KN;obtain⟨A,HA⟩:=nmH w.1.size;obtain⟨wa,b0⟩:=nmH (w.alloc (J #[id,f,v] 26));have h0:=jZ b0 HA;have i0:=bl1 b0;obtain⟨B,HB⟩:=nmH wa.1.size;obtain⟨w0,c0⟩:=nmH (wa.alloc (J (pcC r k n i b (V a m cap)) 29));have g0:=bl1 c0;have HR:=jZ c0 HB;have e0:=hd (jA i0 g0);have f0:H (B=A+1):=by show _=_;rw[HB.out,b0.out,HA.out];simp
 have KP:H (∀ W,Ab w0 w0 W->CB 159 #[pcV r k n i b (V a m cap)] W (okP r k n i b m S)):=fun W hW=>jEy r k n i b a m cap S W ((h.below e0).below hW) hm hL
 have RA:=h0.below g0 h0.lt;have r0:=RA.cell 0;have r1:=RA.cell 1;have r2:=RA.cell 2;have lA:=RA.lt;have q0:=HR.cell 0;have q1:=HR.cell 1;have q2:=HR.cell 2;have q3:=HR.cell 3;have q4:=HR.cell 4;have q5:=HR.cell 5;have lB:=HR.lt;simp at q0 q1 q2 q3 q4 q5 r0 r1 r2;clear h hf hL hm RA i0 g0;by_cases c1:r=d0
 case neg=>
  rw[vY (fun h=>c1 h.1)];have j0:=jEe c1;go_enter func119,ntmps119
  go_wp2_with fail
  rw[<-b0.out,<-c0.out,<-HA.out,<-f0.out];go_quiet ((first|(go_at_call 72;exact Ce (KA _))|(go_at_call 158;exact Ce (KN _))))
  go_wp2
  go_ret
  exact⟨rfl,Cy e0 _⟩
 have j0:=vC d0;by_cases c4:i=id
 case neg=>
  rw[vY (fun h=>c4 h.2.2.2)];have n0:(i==id)=Av:=by simp[c4]
  subst c1;go_enter func119,ntmps119
  go_wp2_with fail
  rw[<-b0.out,<-c0.out,<-HA.out,<-f0.out];go_quiet ((first|(go_at_call 72;exact Ce (KA _))|(go_at_call 158;exact Ce (KN _))))
  go_wp2
  go_ret
  exact⟨rfl,Cy e0 _⟩
 have n0:(i==id)=Aw:=by simp[c4]
 by_cases c2:k=y
 case neg=>
  rw[vY (fun h=>c2 (h.2.1.trans HY.out))];have k0:(k==y)=Av:=by simp[c2]
  subst c1;clear c4;go_enter func119,ntmps119
  go_wp2_with fail
  rw[<-b0.out,<-c0.out,<-HA.out,<-f0.out];go_quiet ((first|(go_at_call 72;exact Ce (KA _))|(go_at_call 158;exact Ce (KN _))))
  go_wp2
  go_ret
  exact⟨rfl,Cy e0 _⟩
 have k0:(k==y)=Aw:=by simp[c2]
 by_cases c3:n=x
 case neg=>
  rw[vY (fun h=>c3 (h.2.2.1.trans HX.out))];have m0:(n==x)=Av:=by simp[c3]
  subst c1;clear c4 c2;go_enter func119,ntmps119
  go_wp2_with fail
  rw[<-b0.out,<-c0.out,<-HA.out,<-f0.out];go_quiet ((first|(go_at_call 72;exact Ce (KA _))|(go_at_call 158;exact Ce (KN _))))
  go_wp2
  go_ret
  exact⟨rfl,Cy e0 _⟩
 have m0:(n==x)=Aw:=by simp[c3]
 rw[jDe ⟨c1,c2.trans HY.out.symm,c3.trans HX.out.symm,c4⟩];subst c1;clear c2 c3 c4;go_enter func119,ntmps119
 go_wp2_with fail
 rw[<-b0.out,<-c0.out,<-HA.out,<-f0.out];go_region_held3 (fun w'=>w'.cell? (Q A 0 I)=M (Ao Ar id)/\w'.cell? (Q A 1 I)=M (Ao Ar f)/\w'.cell? (Q B 0 I)=M (Ag r)/\w'.cell? (Q B 1 I)=M (Ao Ar k)/\w'.cell? (Q B 2 I)=M (Ao Ar n)/\w'.cell? (Q B 3 I)=M (Ao Ar i)/\w'.cell? (Q B 4 I)=M (Ag b)/\w'.cell? (Q B 5 I)=M (V a m cap)) (go_keep) ((first|(go_at_call 72;refine Ax (KA _) ?_;rintro e w8 ⟨rfl,rfl⟩)|(go_at_call 158;refine Ax (KN _) ?_;rintro e w8 ⟨rfl,rfl⟩)|(go_at_call 159;refine Ax (KP _ (Cy (Az _ _) _)) ?_;rintro e w9 ⟨rfl,hb9'⟩;have a0:=jC hb9';clear hb9';have x0:=(a0.cell (p:=A) lA).trans r0;have y0:=(a0.cell (p:=Q A 1 I) lA).trans r1;have o0:=(a0.cell (p:=B) lB).trans q0;have p0:=(a0.cell (p:=Q B 1 I) lB).trans q1;have s0:=(a0.cell (p:=Q B 2 I) lB).trans q2;have t0:=(a0.cell (p:=Q B 3 I) lB).trans q3;have u0:=(a0.cell (p:=Q B 4 I) lB).trans q4;have v0:=(a0.cell (p:=Q B 5 I) lB).trans q5)))
 all_goals
  go_wp2
  go_ret
  exact⟨rfl,jA e0 a0⟩
def stI (f:Int) (e r:Nat):Int:=if 2*f+1<=(r:Int) then 2 else if 2*f+1<=(e:Int) then 1 else if f+1<=(r:Int) then 1 else 0
theorem vM (id f:Int) (v:Aj) (s:Sl) (v6:Aj) (a1 a2:OA) (n1 n2 c1 c2:Nat) (w:Ad) (hf:1<=f/\f<=3):CB 118 #[ndV id f v,slV s v6 (V a1 n1 c1) (V a2 n2 c2)] w (stI f n1 n2):=by
 obtain⟨A,HA⟩:=nmH w.1.size;obtain⟨wa,a0⟩:=nmH (w.alloc (J #[id,f,v] 26));have f0:=jZ a0 HA;have h0:=bl1 a0;obtain⟨B,HB⟩:=nmH wa.1.size;obtain⟨w0,b0⟩:=nmH (wa.alloc (J (slC s v6 (V a1 n1 c1) (V a2 n2 c2)) 42));have g0:=bl1 b0;have HR:=jZ b0 HB;have c0:=hd (jA h0 g0);have d0:H (B=A+1):=by show _=_;rw[HB.out,a0.out,HA.out];simp
 have RA:=f0.below g0 f0.lt;have r1:=RA.cell 1;have i0:=HR.cell 11;have j0:=HR.cell 12;simp[slC] at r1 i0 j0;have e0:IntKind.i64.wrap (2*f)=2*f:=by rw[A8];omega
 obtain⟨x,HX⟩:∃ x:Int,H (2*f+1=x):=⟨_,rfl⟩;have e1:IntKind.i64.wrap (2*f+1)=x:=by have:=HX.out;rw[A8];omega
 obtain⟨y,HY⟩:∃ y:Int,H (f+1=y):=⟨_,rfl⟩;have e2:IntKind.i64.wrap (f+1)=y:=by have:=HY.out;rw[A8];omega
 unfold stI;rw[HX.out,HY.out];by_cases h1:x<=(n2:Int)
 .rw[A6 h1];go_enter func118,ntmps118
  go_wp2_with fail
  rw[<-a0.out,<-b0.out,<-HA.out,<-d0.out];go_quiet (fail)
  go_wp2
  go_ret
  exact⟨rfl,Cy c0 _⟩
 rw[A5 h1];by_cases h2:x<=(n1:Int)
 .rw[A6 h2];go_enter func118,ntmps118
  go_wp2_with fail
  rw[<-a0.out,<-b0.out,<-HA.out,<-d0.out];go_quiet (fail)
  go_wp2
  go_ret
  exact⟨rfl,Cy c0 _⟩
 rw[A5 h2];by_cases h3:y<=(n2:Int)
 .rw[A6 h3];go_enter func118,ntmps118
  go_wp2_with fail
  rw[<-a0.out,<-b0.out,<-HA.out,<-d0.out];go_quiet (fail)
  go_wp2
  go_ret
  exact⟨rfl,Cy c0 _⟩
 rw[A5 h3];go_enter func118,ntmps118
 go_wp2_with fail
 rw[<-a0.out,<-b0.out,<-HA.out,<-d0.out];go_quiet (fail)
 go_wp2
 go_ret
 exact⟨rfl,Cy c0 _⟩
def zB (id f:Int) (s:Sl):Prop:=s.r.size=16/\JH f s.ze=Aw/\JH f s.zr=Aw/\(s.e=Aw->s.h=Aw)/\(s.o=Aw->s.d=Aw)/\(1<=stI f s.ze.length s.zr.length->s.d=Aw)/\(2<=stI f s.ze.length s.zr.length->s.o=Aw)/\s.h=vS s.r id f s.p.r s.p.k s.p.n s.p.i s.p.b s.p.m s.p.S
noncomputable def jD1 (id f:Int) (s:Sl):Bool:=@decide (zB id f s) (Classical.propDecidable _)
theorem jD2 {id f:Int} {s:Sl} (h:zB id f s):jD1 id f s=Aw:=by unfold jD1;exact @Bf _ (Classical.propDecidable _) h
theorem zJ {id f:Int} {s:Sl} (h:¬ zB id f s):jD1 id f s=Av:=by unfold jD1;exact @Bh _ (Classical.propDecidable _) h
theorem jM6 {id f:Int} {s:Sl} {mb:Bool} (g1:s.r.size=16) (g2:JH f s.ze=Aw) (g3:JH f s.zr=Aw) (g4:s.e=Aw->s.h=Aw) (g5:s.o=Aw->s.d=Aw) (g6:1<=stI f s.ze.length s.zr.length->s.d=Aw) (g7:2<=stI f s.ze.length s.zr.length->s.o=Aw) (hm:vS s.r id f s.p.r s.p.k s.p.n s.p.i s.p.b s.p.m s.p.S=mb):jD1 id f s=(s.h==mb):=by
 by_cases h:s.h=mb
 .rw[jD2 ⟨g1,g2,g3,g4,g5,g6,g7,h.trans hm.symm⟩,h];simp
 .rw[zJ (fun k=>h (k.2.2.2.2.2.2.2.trans hm))];simp[h]
theorem jL8 (id f:Int) (v:Aj) (r:ByteArray) (p:Pc) (bh be bd bo:Bool) (ze zr:List Int) (a6 a1 a2:Option Al) (c6 c1 c2:Nat) (w:Ad) (hT:jK w a6 p.m p.S) (hE:jH w a1 ze.length ze) (hZ:jH w a2 zr.length zr) (hf:1<=f/\f<=3) (hm:p.m<=1048576) (hL:∀ i,i<p.m->(p.S i).size<=Au) (h1:ze.length<=1048576) (h2:zr.length<=1048576):Ak Ac 59 #[ndV id f v,Ai #[Ag r,Ag p.r,Ao Ar p.k,Ao Ar p.n,Ao Ar p.i,Ag p.b,V a6 p.m c6,.bool bh,.bool be,.bool bd,.bool bo,V a1 ze.length c1,V a2 zr.length c2]] w fun e w'=>e=Ae (.bool (jD1 id f ⟨r,p,bh,be,bd,bo,ze,zr⟩))/\Ab w.1.size w w':=by
 obtain⟨A,HA⟩:=nmH w.1.size;obtain⟨wa,g0⟩:=nmH (w.alloc (J #[Ao Ar id,Ao Ar f,v] 26));have o0:=jZ g0 HA;have p1:=bl1 g0;obtain⟨B,HB⟩:=nmH wa.1.size;obtain⟨w0,h0⟩:=nmH (wa.alloc (J (#[Ag r,Ag p.r,Ao Ar p.k,Ao Ar p.n,Ao Ar p.i,Ag p.b,V a6 p.m c6,.bool bh,.bool be,.bool bd,.bool bo,V a1 ze.length c1,V a2 zr.length c2]) 42));have p0:=bl1 h0;have HR:=jZ h0 HB;have e0:=hd (jA p1 p0);have n0:H (B=A+1):=by show _=_;rw[HB.out,g0.out,HA.out];simp
 have RA:=o0.out.below p0 o0.out.lt;have r0:=RA.cell 0;have r1:=RA.cell 1;have r2:=RA.cell 2;have q0:=HR.out.cell 0;have q1:=HR.out.cell 1;have q2:=HR.out.cell 2;have q3:=HR.out.cell 3;have q4:=HR.out.cell 4;have q5:=HR.out.cell 5;have q6:=HR.out.cell 6;have q7:=HR.out.cell 7;have q8:=HR.out.cell 8;have q9:=HR.out.cell 9;have j0:=HR.out.cell 10;have k0:=HR.out.cell 11;have m0:=HR.out.cell 12;have lA:=RA.lt;have lB:=HR.out.lt;simp at r0 r1 r2 q0 q1 q2 q3 q4 q5 q6 q7 q8 q9 j0 k0 m0;have K1:H (∀ W,Ab w0.1.size w0 W->Ak Ac 117 #[ndV id f v,V a1 ze.length c1] W fun e w'=>e=Ae (.bool (JH f ze))/\Ab W.1.size W w'):=fun W hW=>zQ id f v a1 _ c1 ze W ((hE.below e0.out).below hW) hf h1
 have K2:H (∀ W,Ab w0.1.size w0 W->Ak Ac 117 #[ndV id f v,V a2 zr.length c2] W fun e w'=>e=Ae (.bool (JH f zr))/\Ab W.1.size W w'):=fun W hW=>zQ id f v a2 _ c2 zr W ((hZ.below e0.out).below hW) hf h2
 have K3:H (∀ W,Ak Ac 118 #[ndV id f v,Ai #[Ag r,Ag p.r,Ao Ar p.k,Ao Ar p.n,Ao Ar p.i,Ag p.b,V a6 p.m c6,.bool bh,.bool be,.bool bd,.bool bo,V a1 ze.length c1,V a2 zr.length c2]] W fun e w'=>e=Ae (Ao Ar (stI f ze.length zr.length))/\Ab W.1.size W w'):=fun W=>vM id f v ⟨r,p,bh,be,bd,bo,ze,zr⟩ _ a1 a2 _ _ c1 c2 W hf
 have K4:H (∀ W,Ab w0.1.size w0 W->Ak Ac 119 #[ndV id f v,pcV p.r p.k p.n p.i p.b (V a6 p.m c6),Ag r] W fun e w'=>e=Ae (.bool (vS r id f p.r p.k p.n p.i p.b p.m p.S))/\Ab W.1.size W w'):=fun W hW=>jBw r id f v _ _ _ _ _ a6 _ c6 _ W ((hT.below e0.out).below hW) hf hm hL
 by_cases g1:r.size=16
 case neg=>
  rw[zJ (fun h=>g1 h.1)];have o1:((r.size:Int) !=16)=Aw:=by simp;omega
  go_enter Tryz.func59,Tryz.ntmps59
  go_wp2_with fail
  rw[<-g0.out,<-h0.out,<-HA.out,<-n0.out];go_ret
  exact⟨rfl,by rw[HA.out];exact e0.out⟩
 have o1:((r.size:Int) !=16)=Av:=by simp;omega
 by_cases g2:JH f ze=Aw
 case neg=>
  rw[zJ (fun h=>g2 h.2.1)];rw[Bool.not_eq_true] at g2;rw[g2] at K1;go_enter Tryz.func59,Tryz.ntmps59
  go_wp2_with fail
  rw[<-g0.out,<-h0.out,<-HA.out,<-n0.out];refine(K1.out _ (Az _ _)).mono ?_;rintro e w1 ⟨rfl,b1⟩;go_wp2_with fail
  go_ret
  exact⟨rfl,jA e0.out b1⟩
 rw[g2] at K1;by_cases g3:JH f zr=Aw
 case neg=>
  rw[zJ (fun h=>g3 h.2.2.1)];rw[Bool.not_eq_true] at g3;rw[g3] at K2;go_enter Tryz.func59,Tryz.ntmps59
  go_wp2_with fail
  rw[<-g0.out,<-h0.out,<-HA.out,<-n0.out];refine(K1.out _ (Az _ _)).mono ?_;rintro e w1 ⟨rfl,b1⟩;have i0:=hd b1;have j2:=(b1.cell (p:=⟨A,0,I⟩) lA).trans r0;have k2:=(b1.cell (p:=⟨A,1,I⟩) lA).trans r1;have m2:=(b1.cell (p:=⟨A,2,I⟩) lA).trans r2;have s1:=(b1.cell (p:=⟨B,0,I⟩) lB).trans q0;have t1:=(b1.cell (p:=⟨B,1,I⟩) lB).trans q1;have u1:=(b1.cell (p:=⟨B,2,I⟩) lB).trans q2;have v1:=(b1.cell (p:=⟨B,3,I⟩) lB).trans q3;have x1:=(b1.cell (p:=⟨B,4,I⟩) lB).trans q4;have y1:=(b1.cell (p:=⟨B,5,I⟩) lB).trans q5;have z1:=(b1.cell (p:=⟨B,6,I⟩) lB).trans q6;have e2:=(b1.cell (p:=⟨B,7,I⟩) lB).trans q7;have f2:=(b1.cell (p:=⟨B,8,I⟩) lB).trans q8;have i2:=(b1.cell (p:=⟨B,9,I⟩) lB).trans q9;have s0:=(b1.cell (p:=⟨B,10,I⟩) lB).trans j0;have t0:=(b1.cell (p:=⟨B,11,I⟩) lB).trans k0;have u0:=(b1.cell (p:=⟨B,12,I⟩) lB).trans m0;go_wp2_with fail
  refine(K2.out _ i0.out).mono ?_;rintro e w2 ⟨rfl,b2⟩;go_wp2_with fail
  go_ret
  exact⟨rfl,jA e0.out (jA i0.out b2)⟩
 rw[g3] at K2;have G:H (r.size=16/\JH f ze=Aw/\JH f zr=Aw):=⟨g1,g2,g3⟩;obtain⟨x,HX⟩:=nnH (stI f ze.length zr.length);rw[HX.out] at K3;obtain⟨mb,HM⟩:=nnH (vS r id f p.r p.k p.n p.i p.b p.m p.S);rw[HM.out] at K4;have hx:x=0\/x=1\/x=2:=by
  rw[<-HX.out];unfold stI;split
  .exact .inr (.inr rfl)
  .split
   .exact .inr (.inl rfl)
   .split
    .exact .inr (.inl rfl)
    .exact .inl rfl
 go_enter Tryz.func59,Tryz.ntmps59
 go_wp2_with fail
 rw[<-g0.out,<-h0.out,<-HA.out,<-n0.out];refine(K1.out _ (Az _ _)).mono ?_;rintro e w1 ⟨rfl,b1⟩;have i0:=hd b1;have j2:=(b1.cell (p:=⟨A,0,I⟩) lA).trans r0;have k2:=(b1.cell (p:=⟨A,1,I⟩) lA).trans r1;have m2:=(b1.cell (p:=⟨A,2,I⟩) lA).trans r2;have s1:=(b1.cell (p:=⟨B,0,I⟩) lB).trans q0;have t1:=(b1.cell (p:=⟨B,1,I⟩) lB).trans q1;have u1:=(b1.cell (p:=⟨B,2,I⟩) lB).trans q2;have v1:=(b1.cell (p:=⟨B,3,I⟩) lB).trans q3;have x1:=(b1.cell (p:=⟨B,4,I⟩) lB).trans q4;have y1:=(b1.cell (p:=⟨B,5,I⟩) lB).trans q5;have z1:=(b1.cell (p:=⟨B,6,I⟩) lB).trans q6;have e2:=(b1.cell (p:=⟨B,7,I⟩) lB).trans q7;have f2:=(b1.cell (p:=⟨B,8,I⟩) lB).trans q8;have i2:=(b1.cell (p:=⟨B,9,I⟩) lB).trans q9;have s0:=(b1.cell (p:=⟨B,10,I⟩) lB).trans j0;have t0:=(b1.cell (p:=⟨B,11,I⟩) lB).trans k0;have u0:=(b1.cell (p:=⟨B,12,I⟩) lB).trans m0;go_wp2_with fail
 refine(K2.out _ i0.out).mono ?_;rintro e w2 ⟨rfl,b2⟩;have d0:=hd (jA i0.out b2);have x3:=(d0.out.cell (p:=⟨A,0,I⟩) lA).trans r0;have y3:=(d0.out.cell (p:=⟨A,1,I⟩) lA).trans r1;have z3:=(d0.out.cell (p:=⟨A,2,I⟩) lA).trans r2;have l3:=(d0.out.cell (p:=⟨B,0,I⟩) lB).trans q0;have m3:=(d0.out.cell (p:=⟨B,1,I⟩) lB).trans q1;have n3:=(d0.out.cell (p:=⟨B,2,I⟩) lB).trans q2;have o3:=(d0.out.cell (p:=⟨B,3,I⟩) lB).trans q3;have p3:=(d0.out.cell (p:=⟨B,4,I⟩) lB).trans q4;have r3:=(d0.out.cell (p:=⟨B,5,I⟩) lB).trans q5;have s3:=(d0.out.cell (p:=⟨B,6,I⟩) lB).trans q6;have t3:=(d0.out.cell (p:=⟨B,7,I⟩) lB).trans q7;have u3:=(d0.out.cell (p:=⟨B,8,I⟩) lB).trans q8;have v3:=(d0.out.cell (p:=⟨B,9,I⟩) lB).trans q9;have e3:=(d0.out.cell (p:=⟨B,10,I⟩) lB).trans j0;have f3:=(d0.out.cell (p:=⟨B,11,I⟩) lB).trans k0;have h3:=(d0.out.cell (p:=⟨B,12,I⟩) lB).trans m0;have B2:=hd (jA e0.out d0.out);cases be <;> cases bh <;> cases bo <;> cases bd
 all_goals go_wp2_with fail
 all_goals first
  | (
   go_ret
   exact⟨jQ (zJ (fun h=>by have h4:=h.2.2.2.1;have h5:=h.2.2.2.2.1;simp at h4 h5)).symm,B2.out⟩)
  | (
   refine(K3.out _).mono ?_;rintro e w3 ⟨rfl,b3⟩;have c0:=hd (jA d0.out b3);have k1:=(c0.out.cell (p:=⟨A,0,I⟩) lA).trans r0;have m1:=(c0.out.cell (p:=⟨A,1,I⟩) lA).trans r1;have n1:=(c0.out.cell (p:=⟨A,2,I⟩) lA).trans r2;have v0:=(c0.out.cell (p:=⟨B,0,I⟩) lB).trans q0;have x0:=(c0.out.cell (p:=⟨B,1,I⟩) lB).trans q1;have y0:=(c0.out.cell (p:=⟨B,2,I⟩) lB).trans q2;have z0:=(c0.out.cell (p:=⟨B,3,I⟩) lB).trans q3;have e1:=(c0.out.cell (p:=⟨B,4,I⟩) lB).trans q4;have f1:=(c0.out.cell (p:=⟨B,5,I⟩) lB).trans q5;have i1:=(c0.out.cell (p:=⟨B,6,I⟩) lB).trans q6;have j1:=(c0.out.cell (p:=⟨B,7,I⟩) lB).trans q7;have a4:=(c0.out.cell (p:=⟨B,8,I⟩) lB).trans q8;have b4:=(c0.out.cell (p:=⟨B,9,I⟩) lB).trans q9;have i3:=(c0.out.cell (p:=⟨B,10,I⟩) lB).trans j0;have j3:=(c0.out.cell (p:=⟨B,11,I⟩) lB).trans k0;have k3:=(c0.out.cell (p:=⟨B,12,I⟩) lB).trans m0;rcases hx with rfl|rfl|rfl;all_goals go_wp2_with fail
   all_goals first
    | (
     go_ret
     exact⟨jQ (zJ (fun h=>by have h6:=h.2.2.2.2.2.1;have h7:=h.2.2.2.2.2.2.1;simp[HX.out] at h6 h7)).symm,jA e0.out c0.out⟩)
    | (
     have b0:∀ {X},X<w0.1.size->X<w3.1.size:=fun h=>Br h c0.out.size
     first
      | (go_region_held3 (fun w'=>w'.cell? ⟨A,0,I⟩=M (Ao Ar id)/\w'.cell? ⟨A,1,I⟩=M (Ao Ar f)/\w'.cell? ⟨A,2,I⟩=M (v)/\w'.cell? ⟨B,0,I⟩=M (Ag r)/\w'.cell? ⟨B,1,I⟩=M (Ag p.r)/\w'.cell? ⟨B,2,I⟩=M (Ao Ar p.k)/\w'.cell? ⟨B,3,I⟩=M (Ao Ar p.n)/\w'.cell? ⟨B,4,I⟩=M (Ao Ar p.i)/\w'.cell? ⟨B,5,I⟩=M (Ag p.b)/\w'.cell? ⟨B,6,I⟩=M (V a6 p.m c6)/\w'.cell? ⟨B,7,I⟩=M (.bool Aw)) (go_keep) ((go_at_call 119;refine Ax (K4.out _ (Cy c0.out _)) ?_;rintro e w9 ⟨rfl,f0⟩;have a0:=jC f0;clear f0;have y2:=(a0.cell (p:=⟨A,0,I⟩) (b0 lA)).trans k1;have z2:=(a0.cell (p:=⟨A,1,I⟩) (b0 lA)).trans m1;have a3:=(a0.cell (p:=⟨A,2,I⟩) (b0 lA)).trans n1;have n2:=(a0.cell (p:=⟨B,0,I⟩) (b0 lB)).trans v0;have o2:=(a0.cell (p:=⟨B,1,I⟩) (b0 lB)).trans x0;have p2:=(a0.cell (p:=⟨B,2,I⟩) (b0 lB)).trans y0;have s2:=(a0.cell (p:=⟨B,3,I⟩) (b0 lB)).trans z0;have t2:=(a0.cell (p:=⟨B,4,I⟩) (b0 lB)).trans e1;have u2:=(a0.cell (p:=⟨B,5,I⟩) (b0 lB)).trans f1;have v2:=(a0.cell (p:=⟨B,6,I⟩) (b0 lB)).trans i1;have x2:=(a0.cell (p:=⟨B,7,I⟩) (b0 lB)).trans j1)))
      | (go_region_held3 (fun w'=>w'.cell? ⟨A,0,I⟩=M (Ao Ar id)/\w'.cell? ⟨A,1,I⟩=M (Ao Ar f)/\w'.cell? ⟨A,2,I⟩=M (v)/\w'.cell? ⟨B,0,I⟩=M (Ag r)/\w'.cell? ⟨B,1,I⟩=M (Ag p.r)/\w'.cell? ⟨B,2,I⟩=M (Ao Ar p.k)/\w'.cell? ⟨B,3,I⟩=M (Ao Ar p.n)/\w'.cell? ⟨B,4,I⟩=M (Ao Ar p.i)/\w'.cell? ⟨B,5,I⟩=M (Ag p.b)/\w'.cell? ⟨B,6,I⟩=M (V a6 p.m c6)/\w'.cell? ⟨B,7,I⟩=M (.bool Av)) (go_keep) ((go_at_call 119;refine Ax (K4.out _ (Cy c0.out _)) ?_;rintro e w9 ⟨rfl,f0⟩;have a0:=jC f0;clear f0;have y2:=(a0.cell (p:=⟨A,0,I⟩) (b0 lA)).trans k1;have z2:=(a0.cell (p:=⟨A,1,I⟩) (b0 lA)).trans m1;have a3:=(a0.cell (p:=⟨A,2,I⟩) (b0 lA)).trans n1;have n2:=(a0.cell (p:=⟨B,0,I⟩) (b0 lB)).trans v0;have o2:=(a0.cell (p:=⟨B,1,I⟩) (b0 lB)).trans x0;have p2:=(a0.cell (p:=⟨B,2,I⟩) (b0 lB)).trans y0;have s2:=(a0.cell (p:=⟨B,3,I⟩) (b0 lB)).trans z0;have t2:=(a0.cell (p:=⟨B,4,I⟩) (b0 lB)).trans e1;have u2:=(a0.cell (p:=⟨B,5,I⟩) (b0 lB)).trans f1;have v2:=(a0.cell (p:=⟨B,6,I⟩) (b0 lB)).trans i1;have x2:=(a0.cell (p:=⟨B,7,I⟩) (b0 lB)).trans j1)))
     all_goals
      go_wp2
      go_ret
      refine⟨jQ ?_,jA e0.out (jA c0.out a0)⟩;rw[jM6 G.out.1 G.out.2.1 G.out.2.2 (by simp) (by simp) (by simp[HX.out]) (by simp[HX.out]) HM.out];cases mb <;> rfl))
theorem jHh (id f:Int) (v:Aj) (s:Sl) (a6 a1 a2:OA) (c6 c1 c2:Nat) (w:Ad) (hT:jK w a6 s.p.m s.p.S) (hE:jH w a1 s.ze.length s.ze) (hZ:jH w a2 s.zr.length s.zr) (hf:1<=f/\f<=3) (hm:s.p.m<=1048576) (hL:∀ i,i<s.p.m->(s.p.S i).size<=Au) (h1:s.ze.length<=1048576) (h2:s.zr.length<=1048576):CB 59 #[ndV id f v,slV s (V a6 s.p.m c6) (V a1 s.ze.length c1) (V a2 s.zr.length c2)] w (jD1 id f s):=by
 obtain⟨r,p,bh,be,bd,bo,ze,zr⟩:=s;exact jL8 id f v r p bh be bd bo ze zr a6 a1 a2 c6 c1 c2 w hT hE hZ hf hm hL h1 h2
def NdP (id f:Int) (n:Nat) (S:Nat->Sl):Prop:=seB id f=Aw/\n<=40/\∀ i,i<n->zB id f (S i)/\∀ j,j<i->(S j).r≠(S i).r
noncomputable def ndB (id f:Int) (n:Nat) (S:Nat->Sl):Bool:=@decide (NdP id f n S) (Classical.propDecidable _)
theorem ZX {id f:Int} {n:Nat} {S:Nat->Sl} (h:NdP id f n S):ndB id f n S=Aw:=by unfold ndB;exact @Bf _ (Classical.propDecidable _) h
theorem xX {id f:Int} {n:Nat} {S:Nat->Sl} (h:¬ NdP id f n S):ndB id f n S=Av:=by unfold ndB;exact @Bh _ (Classical.propDecidable _) h
theorem XZ {id f:Int} (h:seB id f=Aw):1<=f/\f<=3:=by
 have:=Do h
 exact⟨this.1,this.2.1⟩
structure SlN (s:Sl):Prop where
 m:s.p.m<=1048576
 tx:∀ i,i<s.p.m->(s.p.S i).size<=Au
 ne:s.ze.length<=1048576
 nr:s.zr.length<=1048576
theorem jRq {S:Nat->Sl} {n i:Nat} (hi:i<n) (h:∀ j,j<i->(S j).r≠(S i).r):¬ plX S (S i).r n<(i:Int):=by
 unfold plX;cases e:plc S (S i).r n with
 | none=>exact Bo rfl (ZD e i (by omega) (by omega))
 | some x=>
  obtain⟨_,h2,h3,h4⟩:=xA e;show ¬ (x:Int)<(i:Int);intro hx;exact h x (by omega) h3
theorem jPv {S:Nat->Sl} {n i j:Nat} (hi:i<n) (hj:j<i) (h:(S j).r=(S i).r):plX S (S i).r n<(i:Int):=by
 unfold plX;cases e:plc S (S i).r n with
 | none=>exact Bo h (ZD e j (by omega) (by omega))
 | some x=>
  obtain⟨_,h2,h3,h4⟩:=xA e;show (x:Int)<(i:Int);by_cases hx:x<i
  .omega
  .exact Bo h (h4 j (by omega) (by omega))
theorem xD {y:Nat->Aj} {c0 c1 c2 c3 c4 c5 c6 c7 c8 c9 a0 b0 d0:Aj} (h:jIl y=Ai #[c0,c1,c2,c3,c4,c5,c6,c7,c8,c9,a0,b0,d0]):[y 0,y 1,y 2,y 3,y 4,y 5,y 6,y 7,y 8,y 9,y 10,y 11,y 12]=[c0,c1,c2,c3,c4,c5,c6,c7,c8,c9,a0,b0,d0]:=by
 have h':=D8 (fun v=>match v with|Ai a=>a.toList|_=>[]) h;exact h'
abbrev slL (s:Sl) (v6 v11 v12:Aj):List Aj:=[Ag s.r,Ag s.p.r,Ao Ar s.p.k,Ao Ar s.p.n,Ao Ar s.p.i,Ag s.p.b,v6,.bool s.h,.bool s.e,.bool s.d,.bool s.o,v11,v12]
theorem QC {w:Ad} {n:Nat} {S:Nat->Sl} {a:OA} {cap:Nat} (h:Rd w (qG n S) (V a n cap)) {i:Nat} (hi:i<n):∃ (b off:Nat) (a6 a0 b0:OA) (c6 c0 d0:Nat),a=M (Q b off I)/\w.rangeAt b (off+i*13) (slL (S i) (V a6 (S i).p.m c6) (V a0 (S i).ze.length c0) (V b0 (S i).zr.length d0))/\jK w a6 (S i).p.m (S i).p.S/\jH w a0 (S i).ze.length (S i).ze/\jH w b0 (S i).zr.length (S i).zr:=by
 obtain⟨b,off,y,a6,a0,b0,c6,c0,d0,ea,hc,e,t6,e0,f0⟩:=vI h hi;obtain⟨_,x⟩:=zU (sz:=12) w (Az _ _) hc;have R:=jAh x;rw[xD e] at R;exact⟨b,off,a6,a0,b0,c6,c0,d0,ea,R,t6,e0,f0⟩
theorem jHm (id f:Int) (a:OA) (n cap:Nat) (S:Nat->Sl) (w:Ad) (h:Rd w (qG n S) (V a n cap)) (hn:n<=1048576) (hs:∀ i,i<n->SlN (S i)):CB 13 #[ndV id f (V a n cap)] w (ndB id f n S):=by
 obtain⟨A,HA⟩:=nmH w.1.size;obtain⟨w0,c0⟩:=nmH (w.alloc (J #[id,f,V a n cap] 26));have HR:=jZ c0 HA;have b0:=bl1 c0;have d0:H (Ab w w w0):=b0;have KS:H _:=jC5 id f (V a n cap) w0;have KH:H (Rd w0 (qG n S) (V a n cap)):=h.below b0;have KN:H (∀ i,i<n->SlN (S i)):=hs;clear h b0 hs;cases hse:seB id f with
 | false=>
  rw[hse] at KS;rw[xX (fun h=>by have:=h.1;rw[hse] at this;cases this)];go_enter func13,ntmps13
  go_wp2_with fail
  rw[<-c0.out,<-HA.out];refine Ax KS.out ?_;rintro e w1 ⟨rfl,b1⟩;go_wp2
  go_ret
  exact⟨rfl,jA d0 b1⟩
 | true=>
  rw[hse] at KS;have HF:H (1<=f/\f<=3):=XZ hse;have a1:H (seB id f=Aw):=hse;clear hse;by_cases h40:n<=40
  case neg=>
   rw[xX (fun h=>h40 h.2.1)];have r0:(n:Int)>40:=by omega
   go_enter func13,ntmps13
   go_wp2_with fail
   rw[<-c0.out,<-HA.out];refine Ax KS.out ?_;rintro e w1 ⟨rfl,b1⟩;have x2:=(HR.below b1 HR.lt).cell 2;simp at x2;go_wp2
   go_ret
   exact⟨rfl,jA d0 b1⟩
  have r0:¬ (n:Int)>40:=by omega
  go_enter func13,ntmps13
  go_wp2_with fail
  rw[<-c0.out,<-HA.out];refine Ax KS.out ?_;rintro e w1 ⟨rfl,b1⟩;have KB1:H (Ab w0 w0 w1):=b1;have x2:=(HR.below b1 HR.lt).cell 2;simp at x2;clear b1;go_wp2_with fail
  go_loopw [17] (fun vi wr=>∃ k:Nat,k<=n/\vi=Ao Ar (k:Int)/\H (∀ i,i<k->zB id f (S i)/\∀ j,j<i->(S j).r≠(S i).r)/\Ab w0 w0 wr) (fun vi _=>n-(intOf vi).toNat)
  case atStart=>exact⟨0,Bi _,rfl,fun i hi=>Bo hi (Bk _),KB1⟩
  case round=>
   clear x2 KB1;obtain⟨k,hk,rfl,HP,a0⟩:=hrel;by_cases hlt:k<n
   .have c1:(k:Int)<(n:Int):=by omega
    obtain⟨b1,f1,p6,e0,f0,q6,g0,h0,rfl,R1,t6,s0,t0⟩:=QC (KH.below a0) hlt;have R1:H _:=R1;obtain⟨B2,o0⟩:=nmH wr.1.size;obtain⟨w2,j0⟩:=nmH (wr.alloc (J (slC (S k) (V p6 (S k).p.m q6) (V e0 (S k).ze.length g0) (V f0 (S k).zr.length h0)) 42));have b2:=bl1 j0;have p0:=jZ j0 o0;have m0:H (Ab w0 w0 w2):=jA a0 b2;obtain⟨px,k0⟩:=nnH (plX S (S k).r n);have KP:H _:=JW id f (Q b1 f1 I) n cap S (S k).r w2 (KH.below m0) hn;rw[k0.out] at KP;have KI:H (∀ W,Ab w2 w2 W->CB 59 #[ndV id f (V (Q b1 f1 I) n cap),slV (S k) (V p6 (S k).p.m q6) (V e0 (S k).ze.length g0) (V f0 (S k).zr.length h0)] W (jD1 id f (S k))):=fun W hW=>jHh id f _ (S k) p6 e0 f0 q6 g0 h0 W ((t6.below b2).below hW) ((s0.below b2).below hW) ((t0.below b2).below hW) HF (KN k hlt).m (KN k hlt).tx (KN k hlt).ne (KN k hlt).nr
    have RA:=HR.below a0 HR.lt;have x0:=RA.cell 0;have x1:=RA.cell 1;have x2:=RA.cell 2;simp at x0 x1 x2;have lA:=RA.lt;have i0:H (k<n):=hlt;clear t6 s0 t0 b2 RA a0;by_cases hp:px<(k:Int)
    .have HN:H (ndB id f n S=Av):=xX fun h=>(jRq i0 (h.2.2 k i0).2) (by rw[k0.out];exact hp)
     go_wp2_with (refine Bv rfl 42 _ rfl b1 (f1+k*13) rfl (slL (S k) (V p6 (S k).p.m q6) (V e0 (S k).ze.length g0) (V f0 (S k).zr.length h0)) _ ?_ C5 rfl Tryz.infoSl ?_;exact R1)
     rw[<-j0.out];refine Ax KP.out ?_;rintro e w3 ⟨rfl,b3⟩;have n0:H (Ab w0 w0 w3):=jA m0 b3;clear b3 x0 x1 x2;go_wp2
     go_ret
     exact⟨jQ HN.symm,jA d0 n0⟩
    have HQ:H (∀ j,j<k->(S j).r≠(S k).r):=fun j hj e=>hp (by rw[<-k0.out];exact jPv i0 hj e)
    go_wp2_with (refine Bv rfl 42 _ rfl b1 (f1+k*13) rfl (slL (S k) (V p6 (S k).p.m q6) (V e0 (S k).ze.length g0) (V f0 (S k).zr.length h0)) _ ?_ C5 rfl Tryz.infoSl ?_;exact R1)
    rw[<-j0.out,<-o0.out];refine Ax KP.out ?_;rintro e w3 ⟨rfl,b3⟩;have n0:H (Ab w2 w2 w3):=b3;have q0:H (Ab w0 w0 w3):=jA m0 b3;have RA:=HR.below q0 HR.lt;replace x0:=RA.cell 0
    replace x1:=RA.cell 1
    replace x2:=RA.cell 2
    have RB:=p0.below b3 p0.lt;have z0:=RB.cell 0;have z1:=RB.cell 1;have z2:=RB.cell 2;have z3:=RB.cell 3;have z4:=RB.cell 4;have z5:=RB.cell 5;have z6:=RB.cell 6;have z7:=RB.cell 7;have z8:=RB.cell 8;have z9:=RB.cell 9;have u0:=RB.cell 10;have v0:=RB.cell 11;have y0:=RB.cell 12;simp at x0 x1 x2 z0 z1 z2 z3 z4 z5 z6 z7 z8 z9 u0 v0 y0;clear b3 RA RB R1;go_wp2_with fail
    refine Ax (KI _ n0) ?_;rintro e w4 ⟨rfl,b4⟩;have KB5:H (Ab w0 w0 w4):=jA q0 b4;clear x0 x1 x2 z0 z1 z2 z3 z4 z5 z6 z7 z8 z9 u0 v0 y0 b4;by_cases hq:zB id f (S k)
    .have HP2:H (∀ i,i<k+1->zB id f (S i)/\∀ j,j<i->(S j).r≠(S i).r):=fun i hi=>by
      by_cases e:i=k
      .subst e;exact⟨hq,HQ.out⟩
      .exact HP i (by omega)
     rw[jD2 hq];go_wp2
     go_roundw
     case rel=>exact⟨k+1,by omega,by go_num,HP2,KB5.out⟩
     case measure=>simp[intOf];omega
    .have HN:H (ndB id f n S=Av):=xX fun h=>hq (h.2.2 k i0).1
     rw[zJ hq];go_wp2
     go_ret
     exact⟨jQ HN.symm,jA d0 KB5⟩
   .obtain rfl:k=n:=by omega
    have HY:H (ndB id f k S=Aw):=ZX ⟨a1,h40,HP⟩;go_wp2
    go_ret
    exact⟨jQ HY.symm,jA d0 a0⟩
end Go.Proofs.YtcaejlalnjnifaaGreat
namespace Go.Proofs.YtcaejlalnjnifaaGreat
open Go.ChangeShapes Go.WideShapes Go.ChangeAt Go.RowKit Go.Sort
def g7 (x1 b2 b3 bh bm be bd bo:Bool):Bool:=x1&&b2&&b3&&(bh==bm)&&(!be || bh)&&(!bo || bd)
def g9 (bd bo:Bool) (e1 r1 r2:Bool):Bool:=!((!bd&&(e1 || r1)) || (!bo&&r2))
theorem jH7 {id f:Int} {s:Sl} (h7:g7 (decide (s.r.size=16)) (JH f s.ze) (JH f s.zr) s.h (vS s.r id f s.p.r s.p.k s.p.n s.p.i s.p.b s.p.m s.p.S) s.e s.d s.o=Aw) (h9:g9 s.d s.o (decide (2*f+1<=(s.ze.length:Int))) (decide (f+1<=(s.zr.length:Int))) (decide (2*f+1<=(s.zr.length:Int)))=Aw):zB id f s:=by
 unfold g7 at h7;unfold g9 at h9;simp only[Cr,El,Bool.not_eq_true',Ed,Hg,Bool.or_eq_false_iff,Bool.and_eq_false_iff,Bool.not_eq_false',decide_eq_false_iff_not] at h7 h9;obtain⟨⟨⟨⟨⟨a1,a2⟩,a3⟩,a4⟩,a5⟩,a6⟩:=h7;obtain⟨c1,c2⟩:=h9;refine⟨a1,a2,a3,fun h=>?_,fun h=>?_,fun h=>?_,fun h=>?_,a4⟩
 .rcases a5 with a5|a5
  .rw[h] at a5;cases a5
  .exact a5
 .rcases a6 with a6|a6
  .rw[h] at a6;cases a6
  .exact a6
 .rcases c1 with c1|c1
  .exact c1
  .unfold stI at h;obtain⟨d1,d2⟩:=c1;rw[A5 (by omega),A5 d1,A5 d2] at h;omega
 .rcases c2 with c2|c2
  .exact c2
  .unfold stI at h;rw[A5 c2] at h;split at h
   .omega
   .split at h <;> omega
theorem jAw {id f:Int} {s:Sl} (h:zB id f s):g7 (decide (s.r.size=16)) (JH f s.ze) (JH f s.zr) s.h (vS s.r id f s.p.r s.p.k s.p.n s.p.i s.p.b s.p.m s.p.S) s.e s.d s.o=Aw/\g9 s.d s.o (decide (2*f+1<=(s.ze.length:Int))) (decide (f+1<=(s.zr.length:Int))) (decide (2*f+1<=(s.zr.length:Int)))=Aw:=by
 obtain⟨a1,a2,a3,a4,a5,a6,a7,a8⟩:=h;unfold g7 g9;simp only[Cr,El,Bool.not_eq_true',Ed,Hg,Bool.or_eq_false_iff,Bool.and_eq_false_iff,Bool.not_eq_false',decide_eq_false_iff_not];refine⟨⟨⟨⟨⟨⟨a1,a2⟩,a3⟩,a8⟩,?_⟩,?_⟩,?_,?_⟩
 .cases e:s.e with
  | false=>exact .inl rfl
  | true=>exact .inr (a4 e)
 .cases e:s.o with
  | false=>exact .inl rfl
  | true=>exact .inr (a5 e)
 .cases e:s.d with
  | true=>exact .inl rfl
  | false=>
   have n1:¬ 1<=stI f s.ze.length s.zr.length:=fun h=>by rw[a6 h] at e;cases e
   unfold stI at n1;refine .inr ⟨fun h=>n1 ?_,fun h=>n1 ?_⟩ <;> (repeat' split) <;> omega
 .cases e:s.o with
  | true=>exact .inl rfl
  | false=>
   have n1:¬ 2<=stI f s.ze.length s.zr.length:=fun h=>by rw[a7 h] at e;cases e
   unfold stI at n1;exact .inr fun h=>n1 (by rw[A6 h];omega)
theorem QA (id f:Int) (a:OA) (n cap:Nat) (S:Nat->Sl) (w:Ad) (h:Rd w (qG n S) (V a n cap)) (hn:n<=1048576) (hs:∀ i,i<n->SlN (S i)):CB 14 #[ndV id f (V a n cap)] w (ndB id f n S):=by
 obtain⟨A,HA⟩:=nmH w.1.size;obtain⟨w0,m0⟩:=nmH (w.alloc (J #[id,f,V a n cap] 26));have HR:=jZ m0 HA;have b0:=bl1 m0;have i0:H (Ab w w w0):=b0;have KH:H (Rd w0 (qG n S) (V a n cap)):=h.below b0;have KN:H (∀ i,i<n->SlN (S i)):=hs;have x0:=HR.cell 0;have x1:=HR.cell 1;have x2:=HR.cell 2;simp at x0 x1 x2;clear h b0 hs;by_cases hf:1<=f/\f<=3
 case neg=>
  have i1:inB f 1 3=Av:=Bh hf;rw[xX (fun h=>hf (XZ h.1))];go_enter func14,ntmps14
  go_wp2_with fail
  rw[<-m0.out,<-HA.out];go_quiet ((go_at_call 43;exact Ce (jM _ _ _ _)))
  go_wp2
  go_ret
  exact⟨rfl,Cy i0 _⟩
 have i1:inB f 1 3=Aw:=Bf hf;have HF:H (1<=f/\f<=3):=hf;have KA:H (∀ W,CS 50 #[f] W (3*f+1:Int)):=fun W=>vQ f W hf
 obtain⟨m,HM⟩:∃ m:Int,H (3*f+1=m):=⟨_,rfl⟩;rw[HM.out] at KA;have em:IntKind.i64.wrap (m-1)=3*f:=by have:=HM.out;rw[A8];omega
 obtain⟨m1,a1⟩:∃ m1:Int,H (3*f=m1):=⟨_,rfl⟩;rw[a1.out] at em;have a3:IntKind.i64.wrap (2*f)=2*f:=by rw[A8];omega
 obtain⟨x,HX⟩:∃ x:Int,H (2*f+1=x):=⟨_,rfl⟩;have g3:IntKind.i64.wrap (2*f+1)=x:=by have:=HX.out;rw[A8];omega
 obtain⟨y,HY⟩:∃ y:Int,H (f+1=y):=⟨_,rfl⟩;have v2:IntKind.i64.wrap (f+1)=y:=by have:=HY.out;rw[A8];omega
 clear hf;cases hse:seB id f with
 | false=>
  have i2:inB id 0 m1=Av:=by
   have:=a1.out
   have:=HF.out
   have:=Gb hse
   unfold inB;exact Bh (by omega)
  rw[xX (fun h=>by have:=h.1;rw[hse] at this;cases this)];go_enter func14,ntmps14
  go_wp2_with fail
  rw[<-m0.out,<-HA.out];go_quiet (first|(go_at_call 50;exact Ce (KA _))|(go_at_call 43;exact Ce (jM _ _ _ _)))
  go_wp2
  go_ret
  exact⟨rfl,Cy i0 _⟩
 | true=>
 have i2:inB id 0 m1=Aw:=by
  have:=a1.out
  have:=HF.out
  have:=Do hse
  unfold inB;exact Bf (by omega)
 have g2:H (seB id f=Aw):=hse;clear hse;by_cases h40:n<=40
 case neg=>
  rw[xX (fun h=>h40 h.2.1)];have e1:(n:Int)>40:=by omega
  go_enter func14,ntmps14
  go_wp2_with fail
  rw[<-m0.out,<-HA.out];go_quiet (first|(go_at_call 50;exact Ce (KA _))|(go_at_call 43;exact Ce (jM _ _ _ _)))
  go_wp2
  go_ret
  exact⟨rfl,Cy i0 _⟩
 have e1:¬ (n:Int)>40:=by omega
 go_enter func14,ntmps14
 go_wp2_with fail
 rw[<-m0.out,<-HA.out];go_quiet (first|(go_at_call 50;exact Ce (KA _))|(go_at_call 43;exact Ce (jM _ _ _ _)))
 go_wp2_with fail
 clear i1 i2 em KA HM a1 e1;go_loopw [3] (fun vi wr=>∃ k:Nat,k<=n/\vi=Ao Ar (k:Int)/\H (∀ i,i<k->zB id f (S i)/\∀ j,j<i->(S j).r≠(S i).r)/\Ab w0 w0 wr) (fun vi _=>n-(intOf vi).toNat)
 case atStart=>exact⟨0,Bi _,rfl,fun i hi=>Bo hi (Bk _),Cy (Az _ _) _⟩
 case round=>
  obtain⟨k,hk,rfl,HP,g0⟩:=hrel;have lA:=(HR.below g0 HR.lt).lt;replace x0:=(g0.cell (p:=A) HR.lt).trans x0
  replace x1:=(g0.cell (p:=Q A 1 I) HR.lt).trans x1
  replace x2:=(g0.cell (p:=Q A 2 I) HR.lt).trans x2
  by_cases hlt:k<n
  case neg=>
   obtain rfl:k=n:=by omega
   have HY:H (ndB id f k S=Aw):=ZX ⟨g2,h40,HP⟩;go_wp2
   go_ret
   exact⟨jQ HY.symm,jA i0 g0⟩
  have l3:(k:Int)<(n:Int):=by omega
  obtain⟨b1,f1,p6,p0,q0,q6,s0,t0,rfl,R1,t6,e2,f2⟩:=QC (KH.below g0) hlt;have R1:H _:=R1;obtain⟨B2,s1⟩:=nmH wr.1.size;obtain⟨w2,p1⟩:=nmH (wr.alloc (J (slC (S k) (V p6 (S k).p.m q6) (V p0 (S k).ze.length s0) (V q0 (S k).zr.length t0)) 42));have b2:=bl1 p1;have e0:=jZ p1 s1;have u1:H (Ab w0 w0 w2):=jA g0 b2;obtain⟨c1,u0⟩:=nnH (decide ((S k).r.size=16));obtain⟨c2,g1⟩:=nnH (JH f (S k).ze);obtain⟨c3,j1⟩:=nnH (JH f (S k).zr);obtain⟨cm,o1⟩:=nnH (vS (S k).r id f (S k).p.r (S k).p.k (S k).p.n (S k).p.i (S k).p.b (S k).p.m (S k).p.S);obtain⟨ch,n1⟩:=nnH ((S k).h);obtain⟨ce,k1⟩:=nnH ((S k).e);obtain⟨cd,j0⟩:=nnH ((S k).d);obtain⟨co,k0⟩:=nnH ((S k).o);have N1:∀ d os,Ak prog 60 #[V p0 (S k).ze.length s0,f] (grow (redrawn w2 d) os) fun e w'=>e=Ae c2/\∃ p:Regrown,w'=grow (redrawn w2 p.d) p.os:=fun d os=>Calls.regrown_of (by have:=jAj f p0 _ s0 (S k).ze (grow (redrawn w2 d) os) ((e2.below b2).below (below_regrown w2 d os)) HF (KN k hlt).ne;rw[g1.out] at this;exact this)
  have N2:∀ d os,Ak prog 60 #[V q0 (S k).zr.length t0,f] (grow (redrawn w2 d) os) fun e w'=>e=Ae c3/\∃ p:Regrown,w'=grow (redrawn w2 p.d) p.os:=fun d os=>Calls.regrown_of (by have:=jAj f q0 _ t0 (S k).zr (grow (redrawn w2 d) os) ((f2.below b2).below (below_regrown w2 d os)) HF (KN k hlt).nr;rw[j1.out] at this;exact this)
  have f0:∀ d os,Ak prog 51 #[pcV (S k).p.r (S k).p.k (S k).p.n (S k).p.i (S k).p.b (V p6 (S k).p.m q6),Ag (S k).r,id,f] (grow (redrawn w2 d) os) fun e w'=>e=Ae cm/\∃ p:Regrown,w'=grow (redrawn w2 p.d) p.os:=fun d os=>Calls.regrown_of (by have:=jDr (S k).r id f (S k).p.r (S k).p.k (S k).p.n (S k).p.i (S k).p.b p6 (S k).p.m q6 (S k).p.S (grow (redrawn w2 d) os) ((t6.below b2).below (below_regrown w2 d os)) HF (KN k hlt).m (KN k hlt).tx;rw[o1.out] at this;exact this)
  have HLT:H (k<n):=hlt;have v1:H _:=N1;have w1:H _:=N2;have a2:H _:=f0;clear N1 N2 f0 t6 e2 f2 b2 g0;go_wp2_with (refine Bv rfl 42 _ rfl b1 (f1+k*13) rfl (slL (S k) (V p6 (S k).p.m q6) (V p0 (S k).ze.length s0) (V q0 (S k).zr.length t0)) _ ?_ C5 rfl Tryz.infoSl ?_;exact R1)
  rw[<-p1.out,<-s1.out];have RA:=HR.below u1 HR.lt;have y0:=RA.cell 0;have y1:=RA.cell 1;have y2:=RA.cell 2;have z0:=e0.cell 0;have z1:=e0.cell 1;have z2:=e0.cell 2;have z3:=e0.cell 3;have z4:=e0.cell 4;have z5:=e0.cell 5;have z6:=e0.cell 6;have z7:=e0.cell 7;have z8:=e0.cell 8;have z9:=e0.cell 9;have h0:=e0.cell 10;have n0:=e0.cell 11;have o0:=e0.cell 12;simp at y0 y1 y2 z0 z1 z2 z3 z4 z5 z6 z7 z8 z9 h0 n0 o0;rw[n1.out] at z7;rw[k1.out] at z8;rw[j0.out] at z9;rw[k0.out] at h0;clear RA R1 x0 x1 x2;go_cut [89] from 26 to 140 (fun v wx=>H (v=.bool (!g7 c1 c2 c3 ch cm ce cd co)/\Ab w2 w2 wx))
  case first=>
   have Y0:∀ d os,(grow (redrawn w2 d) os).cell? (Q A 0 I)=_:=fun d os=>cell_regrown y0 d os
   have Y1:∀ d os,(grow (redrawn w2 d) os).cell? (Q A 1 I)=_:=fun d os=>cell_regrown y1 d os
   have Z0:∀ d os,(grow (redrawn w2 d) os).cell? (Q B2 0 I)=_:=fun d os=>cell_regrown z0 d os
   have Z1:∀ d os,(grow (redrawn w2 d) os).cell? (Q B2 1 I)=_:=fun d os=>cell_regrown z1 d os
   have Z2:∀ d os,(grow (redrawn w2 d) os).cell? (Q B2 2 I)=_:=fun d os=>cell_regrown z2 d os
   have Z3:∀ d os,(grow (redrawn w2 d) os).cell? (Q B2 3 I)=_:=fun d os=>cell_regrown z3 d os
   have Z4:∀ d os,(grow (redrawn w2 d) os).cell? (Q B2 4 I)=_:=fun d os=>cell_regrown z4 d os
   have Z5:∀ d os,(grow (redrawn w2 d) os).cell? (Q B2 5 I)=_:=fun d os=>cell_regrown z5 d os
   have Z6:∀ d os,(grow (redrawn w2 d) os).cell? (Q B2 6 I)=_:=fun d os=>cell_regrown z6 d os
   have Z7:∀ d os,(grow (redrawn w2 d) os).cell? (Q B2 7 I)=_:=fun d os=>cell_regrown z7 d os
   have Z8:∀ d os,(grow (redrawn w2 d) os).cell? (Q B2 8 I)=_:=fun d os=>cell_regrown z8 d os
   have Z9:∀ d os,(grow (redrawn w2 d) os).cell? (Q B2 9 I)=_:=fun d os=>cell_regrown z9 d os
   have p2:∀ d os,(grow (redrawn w2 d) os).cell? (Q B2 10 I)=_:=fun d os=>cell_regrown h0 d os
   have q2:∀ d os,(grow (redrawn w2 d) os).cell? (Q B2 11 I)=_:=fun d os=>cell_regrown n0 d os
   have s2:∀ d os,(grow (redrawn w2 d) os).cell? (Q B2 12 I)=_:=fun d os=>cell_regrown o0 d os
   have N1:=v1.out;have N2:=w1.out;have f0:=a2.out;clear y0 y1 y2 z0 z1 z2 z3 z4 z5 z6 z7 z8 z9 h0 n0 o0;cases c1 with
   | false=>
    have n2:(((S k).r.size:Int) !=16)=Aw:=by have:=Gb u0;simp;omega
    refine wp_region_quiet_below (by kernel_rfl) (by kernel_rfl) ?_;repeat (go_big_quiet_step (first|(with_reducible exact N1 _ _)|(with_reducible exact N2 _ _)|(with_reducible exact f0 _ _)))
    refine Ct ?_;intro _ c0;obtain⟨⟨dq,d0⟩,a0⟩:=c0;subst a0;go_wp2_with fail
    go_meet
    exact⟨rfl,below_regrown w2 dq d0⟩
   | true=>
   have n2:(((S k).r.size:Int) !=16)=Av:=by have:=Do u0;simp;omega
   cases c2 with
   | false=>
    refine wp_region_quiet_below (by kernel_rfl) (by kernel_rfl) ?_;repeat (go_big_quiet_step (first|(with_reducible exact N1 _ _)|(with_reducible exact N2 _ _)|(with_reducible exact f0 _ _)))
    refine Ct ?_;intro _ c0;obtain⟨⟨dq,d0⟩,a0⟩:=c0;subst a0;go_wp2_with fail
    go_meet
    exact⟨rfl,below_regrown w2 dq d0⟩
   | true=>
   cases c3 with
   | false=>
    refine wp_region_quiet_below (by kernel_rfl) (by kernel_rfl) ?_;repeat (go_big_quiet_step (first|(with_reducible exact N1 _ _)|(with_reducible exact N2 _ _)|(with_reducible exact f0 _ _)))
    refine Ct ?_;intro _ c0;obtain⟨⟨dq,d0⟩,a0⟩:=c0;subst a0;go_wp2_with fail
    go_meet
    exact⟨rfl,below_regrown w2 dq d0⟩
   | true=>
   cases ch with
   | false=>
    cases cm with
    | true=>
     refine wp_region_quiet_below (by kernel_rfl) (by kernel_rfl) ?_;repeat (go_big_quiet_step (first|(with_reducible exact N1 _ _)|(with_reducible exact N2 _ _)|(with_reducible exact f0 _ _)))
     refine Ct ?_;intro _ c0;obtain⟨⟨dq,d0⟩,a0⟩:=c0;subst a0;go_wp2_with fail
     go_meet
     exact⟨D8 Value.bool (by simp[g7]),below_regrown w2 dq d0⟩
    | false=>
     cases ce with
     | true=>
      refine wp_region_quiet_below (by kernel_rfl) (by kernel_rfl) ?_;repeat (go_big_quiet_step (first|(with_reducible exact N1 _ _)|(with_reducible exact N2 _ _)|(with_reducible exact f0 _ _)))
      refine Ct ?_;intro _ c0;obtain⟨⟨dq,d0⟩,a0⟩:=c0;subst a0;go_wp2_with fail
      go_meet
      exact⟨D8 Value.bool (by simp[g7]),below_regrown w2 dq d0⟩
     | false=>
      cases co with
      | false=>
       refine wp_region_quiet_below (by kernel_rfl) (by kernel_rfl) ?_;repeat (go_big_quiet_step (first|(with_reducible exact N1 _ _)|(with_reducible exact N2 _ _)|(with_reducible exact f0 _ _)))
       refine Ct ?_;intro _ c0;obtain⟨⟨dq,d0⟩,a0⟩:=c0;subst a0;go_wp2_with fail
       go_meet
       exact⟨D8 Value.bool (by simp[g7]),below_regrown w2 dq d0⟩
      | true=>
       refine wp_region_quiet_below (by kernel_rfl) (by kernel_rfl) ?_;repeat (go_big_quiet_step (first|(with_reducible exact N1 _ _)|(with_reducible exact N2 _ _)|(with_reducible exact f0 _ _)))
       refine Ct ?_;intro _ c0;obtain⟨⟨dq,d0⟩,a0⟩:=c0;subst a0;go_wp2_with fail
       go_meet
       exact⟨D8 Value.bool (by simp[g7]),below_regrown w2 dq d0⟩
   | true=>
    cases cm with
    | false=>
     refine wp_region_quiet_below (by kernel_rfl) (by kernel_rfl) ?_;repeat (go_big_quiet_step (first|(with_reducible exact N1 _ _)|(with_reducible exact N2 _ _)|(with_reducible exact f0 _ _)))
     refine Ct ?_;intro _ c0;obtain⟨⟨dq,d0⟩,a0⟩:=c0;subst a0;go_wp2_with fail
     go_meet
     exact⟨D8 Value.bool (by simp[g7]),below_regrown w2 dq d0⟩
    | true=>
     cases ce with
     | false=>
      cases co with
      | false=>
       refine wp_region_quiet_below (by kernel_rfl) (by kernel_rfl) ?_;repeat (go_big_quiet_step (first|(with_reducible exact N1 _ _)|(with_reducible exact N2 _ _)|(with_reducible exact f0 _ _)))
       refine Ct ?_;intro _ c0;obtain⟨⟨dq,d0⟩,a0⟩:=c0;subst a0;go_wp2_with fail
       go_meet
       exact⟨D8 Value.bool (by simp[g7]),below_regrown w2 dq d0⟩
      | true=>
       refine wp_region_quiet_below (by kernel_rfl) (by kernel_rfl) ?_;repeat (go_big_quiet_step (first|(with_reducible exact N1 _ _)|(with_reducible exact N2 _ _)|(with_reducible exact f0 _ _)))
       refine Ct ?_;intro _ c0;obtain⟨⟨dq,d0⟩,a0⟩:=c0;subst a0;go_wp2_with fail
       go_meet
       exact⟨D8 Value.bool (by simp[g7]),below_regrown w2 dq d0⟩
     | true=>
      cases co with
      | false=>
       refine wp_region_quiet_below (by kernel_rfl) (by kernel_rfl) ?_;repeat (go_big_quiet_step (first|(with_reducible exact N1 _ _)|(with_reducible exact N2 _ _)|(with_reducible exact f0 _ _)))
       refine Ct ?_;intro _ c0;obtain⟨⟨dq,d0⟩,a0⟩:=c0;subst a0;go_wp2_with fail
       go_meet
       exact⟨D8 Value.bool (by simp[g7]),below_regrown w2 dq d0⟩
      | true=>
       refine wp_region_quiet_below (by kernel_rfl) (by kernel_rfl) ?_;repeat (go_big_quiet_step (first|(with_reducible exact N1 _ _)|(with_reducible exact N2 _ _)|(with_reducible exact f0 _ _)))
       refine Ct ?_;intro _ c0;obtain⟨⟨dq,d0⟩,a0⟩:=c0;subst a0;go_wp2_with fail
       go_meet
       exact⟨D8 Value.bool (by simp[g7]),below_regrown w2 dq d0⟩
  obtain⟨rfl,q1⟩:=hcut.out;clear hcut v1 w1 a2;have KB3:H (Ab w0 w0 wc):=jA u1 q1;have RA:=HR.below KB3 HR.lt;have RB:=e0.below q1 e0.lt;have o2:H (Row wc B2 42 (slC (S k) (V p6 (S k).p.m q6) (V p0 (S k).ze.length s0) (V q0 (S k).zr.length t0))):=RB;replace y0:=RA.cell 0
  replace y1:=RA.cell 1
  replace y2:=RA.cell 2
  replace z0:=RB.cell 0
  replace z1:=RB.cell 1
  replace z2:=RB.cell 2
  replace z3:=RB.cell 3
  replace z4:=RB.cell 4
  replace z5:=RB.cell 5
  replace z6:=RB.cell 6
  replace z7:=RB.cell 7
  replace z8:=RB.cell 8
  replace z9:=RB.cell 9
  replace h0:=RB.cell 10
  replace n0:=RB.cell 11
  replace o0:=RB.cell 12
  simp at y0 y1 y2 z0 z1 z2 z3 z4 z5 z6 z7 z8 z9 h0 n0 o0;rw[j0.out] at z9;rw[k0.out] at h0;clear RA RB q1;cases hg7:g7 c1 c2 c3 ch cm ce cd co with
  | false=>
   have HN:H (ndB id f n S=Av):=xX fun h=>by
    have:=(jAw (h.2.2 k HLT).1).1
    rw[u0.out,g1.out,j1.out,n1.out,o1.out,k1.out,j0.out,k0.out,hg7] at this;cases this
   go_wp2
   go_ret
   exact⟨jQ HN.symm,jA i0 KB3⟩
  | true=>
  have t1:H (g7 c1 c2 c3 ch cm ce cd co=Aw):=hg7;clear hg7;go_upto_region 9 with fail
  go_cut [126] from 26 to 140 (fun v wx=>H (v=.bool (!g9 cd co (decide (x<=((S k).ze.length:Int))) (decide (y<=((S k).zr.length:Int))) (decide (x<=((S k).zr.length:Int))))/\wx=wc))
  case first=>
   cases cd with
   | true=>
    cases co with
    | true=>
     go_wp2
     go_meet
     exact⟨D8 Value.bool (by simp[g9]),rfl⟩
    | false=>
     by_cases r2:x<=((S k).zr.length:Int)
     .go_wp2
      go_meet
      exact⟨D8 Value.bool (by simp[g9,r2]),rfl⟩
     .go_wp2
      go_meet
      exact⟨D8 Value.bool (by simp[g9,r2]),rfl⟩
   | false=>
    by_cases r0:x<=((S k).ze.length:Int)
    .go_wp2
     go_meet
     exact⟨D8 Value.bool (by simp[g9,r0]),rfl⟩
    by_cases r1:y<=((S k).zr.length:Int)
    .go_wp2
     go_meet
     exact⟨D8 Value.bool (by simp[g9,r1]),rfl⟩
    cases co with
    | true=>
     go_wp2
     go_meet
     exact⟨D8 Value.bool (by simp[g9,r0,r1]),rfl⟩
    | false=>
     by_cases r2:x<=((S k).zr.length:Int)
     .go_wp2
      go_meet
      exact⟨D8 Value.bool (by simp[g9,r2]),rfl⟩
     .go_wp2
      go_meet
      exact⟨D8 Value.bool (by simp[g9,r0,r1,r2]),rfl⟩
  obtain⟨rfl,m2⟩:=hcut.out;clear hcut;subst m2;cases hg9:g9 cd co (decide (x<=((S k).ze.length:Int))) (decide (y<=((S k).zr.length:Int))) (decide (x<=((S k).zr.length:Int))) with
  | false=>
   have HN:H (ndB id f n S=Av):=xX fun h=>by
    have:=(jAw (h.2.2 k HLT).1).2
    rw[j0.out,k0.out,HX.out,HY.out,hg9] at this;cases this
   go_wp2
   go_ret
   exact⟨jQ HN.symm,jA i0 KB3⟩
  | true=>
  have j2:H (zB id f (S k)):=jH7 (by rw[u0.out,g1.out,j1.out,n1.out,o1.out,k1.out,j0.out,k0.out];exact t1) (by rw[j0.out,k0.out,HX.out,HY.out];exact hg9);have k2:H (Rd wc (qG n S) (V (Q b1 f1 I) n cap)):=KH.below KB3;clear hg9 t1 z1 z2 z3 z4 z5 z6 z7 z8 z9 h0 n0 o0;go_wp2_with fail
  go_loopw [5] (fun vi wr=>∃ j:Nat,j<=k/\vi=Ao Ar (j:Int)/\H (∀ i,i<j->(S i).r≠(S k).r)/\Ab wc wc wr) (fun vi _=>k-(intOf vi).toNat)
  case atStart=>exact⟨0,Bi _,rfl,fun i hi=>Bo hi (Bk _),Az _ _⟩
  case round=>
   obtain⟨j,hj,rfl,HJ,hbj⟩:=hrel;replace y2:=(hbj.cell (p:=Q A 2 I) (A7 y2)).trans y2
   replace z0:=(hbj.cell (p:=B2) (A7 z0)).trans z0
   by_cases hjk:j<k
   .have j3:(j:Int)<(k:Int):=by omega
    have k3:(j:Int)<(n:Int):=by omega
    obtain⟨b3,f3,g6,h3,i3,d6,t2,u2,e3,R3,_,_,_⟩:=QC (k2.below hbj) (Nat.lt_trans hjk HLT);cases e3;have v0:wr.cell? (Q b1 (f1+j*13) I)=M (Ag (S j).r):=by
     have:=R3 0 (Ag (S j).r) rfl
     simpa using this
    have KBj:H (Ab wc wc wr):=hbj;clear R3 hbj;by_cases hr:(S j).r=(S k).r
    .have HN:H (ndB id f n S=Av):=xX fun h=>(h.2.2 k HLT).2 j hjk hr
     rw[hr] at v0;have hb:=vC (S k).r;clear hr;go_wp2_with fail
     go_quiet (fail)
     go_wp2
     go_ret
     exact⟨jQ HN.symm,Cy (jA i0 (jA KB3 KBj)) _⟩
    .have HJ2:H (∀ i,i<j+1->(S i).r≠(S k).r):=fun i hi=>by
      by_cases e:i=j
      .subst e;exact hr
      .exact HJ i (by omega)
     have hb:=jEe hr;clear hr;go_wp2_with fail
     go_quiet (fail)
     go_wp2_with fail
     go_roundw
     case rel=>exact⟨j+1,by omega,by go_num,HJ2,Cy KBj.out _⟩
     case measure=>simp[intOf];omega
   .obtain rfl:j=k:=by omega
    have HP2:H (∀ i,i<j+1->zB id f (S i)/\∀ l,l<i->(S l).r≠(S i).r):=fun i hi=>by
     by_cases e:i=j
     .subst e;exact⟨j2.out,HJ.out⟩
     .exact HP i (by omega)
    go_wp2_with fail
    go_roundw
    case rel=>exact⟨j+1,by have:=HLT.out;omega,by go_num,HP2,jA KB3.out hbj⟩
    case measure=>have:=HLT.out;simp[intOf];omega
end Go.Proofs.YtcaejlalnjnifaaGreat
