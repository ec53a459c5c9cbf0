import Derived.Test.YtcaejlalnjnifaaGreatR19
import Derived.Lib.QuietBelow
import Derived.Deep.CutRange
set_option maxHeartbeats 8000000
set_option maxRecDepth 2000
open Go.Value renaming slice->V,string->Ag,agg->Ai,int->Ao,oneCell'->Aq
open Option renaming none->I,some->M
open Go.RowKit renaming Hid->H,Below->Ab
open Go.Addr renaming mk->Q
open Go renaming undef->O,World->Ad,Value->Aj,Calls->Ak,maxLen->Au
open Go.Obj renaming cells->J
open Go.Ending renaming returned->Ae
open Go.IntKind renaming i64->Ar
open Bool renaming false->Av,true->Aw
open Go.Proofs.Tryz
open Go.ChangeShapes Go.WideShapes Go.ChangeAt Go.RowKit
namespace Go.Proofs.YtcaejlalnjnifaaGreat
def zC (id f:Int) (s:Sl):Prop:=s.r.size=16/\JI f s.ze=Aw/\JI f s.zr=Aw/\(s.e=Aw->s.h=Aw)/\(s.o=Aw->s.d=Aw)/\(1<=stI f s.ze.length s.zr.length->s.d=Aw)/\(2<=stI f s.ze.length s.zr.length->s.o=Aw)/\s.h=vU s.r id f s.p.r s.p.k s.p.n s.p.i s.p.b s.p.m s.p.S
noncomputable def jD6 (id f:Int) (s:Sl):Bool:=@decide (zC id f s) (Classical.propDecidable _)
theorem jD7 {id f:Int} {s:Sl} (h:zC id f s):jD6 id f s=Aw:=by unfold jD6;exact @Bf _ (Classical.propDecidable _) h
theorem zL {id f:Int} {s:Sl} (h:¬ zC id f s):jD6 id f s=Av:=by unfold jD6;exact @Bg _ (Classical.propDecidable _) h
theorem jNk {id f:Int} {s:Sl} {mb:Bool} (g1:s.r.size=16) (g2:JI f s.ze=Aw) (g3:JI f s.zr=Aw) (g4:s.e=Aw->s.h=Aw) (g5:s.o=Aw->s.d=Aw) (g6:1<=stI f s.ze.length s.zr.length->s.d=Aw) (g7:2<=stI f s.ze.length s.zr.length->s.o=Aw) (hm:vU s.r id f s.p.r s.p.k s.p.n s.p.i s.p.b s.p.m s.p.S=mb):jD6 id f s=(s.h==mb):=by
 by_cases h:s.h=mb
 .rw[jD7 ⟨g1,g2,g3,g4,g5,g6,g7,h.trans hm.symm⟩,h];simp
 .rw[zL (fun k=>h (k.2.2.2.2.2.2.2.trans hm))];simp[h]
theorem jMm (id f:Int) (v:Aj) (r:BA) (p:Pc) (bh be bd bo:Bool) (ze zr:List Int) (a6 a1 a2:OA) (c6 c1 c2:Nat) (w:Ad) (hT:jL w a6 p.m p.S) (hE:jH w a1 ze.length ze) (hZ:jH w a2 zr.length zr) (hf:1<=f/\f<=3) (hm:p.m<=1048576) (hL:∀ i,i<p.m->(p.S i).size<=Au) (h1:ze.length<=1048576) (h2:zr.length<=1048576):CB 59 #[ndV id f v,Ai #[r,p.r,p.k,p.n,p.i,p.b,V a6 p.m c6,bh,be,bd,bo,V a1 ze.length c1,V a2 zr.length c2]] w (jD6 id f ⟨r,p,bh,be,bd,bo,ze,zr⟩):=by
 obtain⟨A,HA⟩:=nmH w.1.size;obtain⟨wa,g0⟩:=nmH (w.alloc (J #[id,f,v] 26));have o0:=jZ g0 HA;have p1:=bl1 g0;obtain⟨B,HB⟩:=nmH wa.1.size;obtain⟨w0,h0⟩:=nmH (wa.alloc (J (#[r,p.r,p.k,p.n,p.i,p.b,V a6 p.m c6,bh,be,bd,bo,V a1 ze.length c1,V a2 zr.length c2]) 42));have p0:=bl1 h0;have HR:=jZ h0 HB;have e0:=hd (jA p1 p0);have n0:H (B=A+1):=by show _=_;rw[HB.out,g0.out,HA.out];simp
 have RA:=o0.below p0 o0.lt;obtain⟨r0,r1,r2⟩:=RA.c3 0 1 2;obtain⟨q0,q1,q2,q3,q4,q5⟩:=HR.c6 0 1 2 3 4 5;obtain⟨q6,q7,q8,q9,j0,k0⟩:=HR.c6 6 7 8 9 10 11;have m0:=HR.cell 12;have lA:=RA.lt;have lB:=HR.lt;simp at r0 r1 r2 q0 q1 q2 q3 q4 q5 q6 q7 q8 q9 j0 k0 m0;have K1:H (∀ W,Ab w0 w0 W->CB 117 #[ndV id f v,V a1 ze.length c1] W (JI f ze)):=fun W hW=>zT id f v a1 _ c1 ze W ((hE.below e0).below hW) hf h1
 have K2:H (∀ W,Ab w0 w0 W->CB 117 #[ndV id f v,V a2 zr.length c2] W (JI f zr)):=fun W hW=>zT id f v a2 _ c2 zr W ((hZ.below e0).below hW) hf h2
 have K3:H (∀ W,CB 118 #[ndV id f v,Ai #[r,p.r,p.k,p.n,p.i,p.b,V a6 p.m c6,bh,be,bd,bo,V a1 ze.length c1,V a2 zr.length c2]] W (stI f ze.length zr.length)):=fun W=>vN id f v ⟨r,p,bh,be,bd,bo,ze,zr⟩ _ a1 a2 _ _ c1 c2 W hf
 have K4:H (∀ W,Ab w0 w0 W->CB 119 #[ndV id f v,pcV p.r p.k p.n p.i p.b (V a6 p.m c6),r] W (vU r id f p.r p.k p.n p.i p.b p.m p.S)):=fun W hW=>jBz r id f v _ _ _ _ _ a6 _ c6 _ W ((hT.below e0).below hW) hf hm hL
 by_cases g1:r.size=16
 case neg=>
  rw[zL (fun h=>g1 h.1)];have o1:((r.size:Int) !=16)=Aw:=by simp;omega
  go_enter func59,ntmps59
  go_wp2_with fail
  rw[<-g0.out,<-h0.out,<-HA.out,<-n0.out];go_ret
  exact⟨rfl,by rw[HA.out];exact e0⟩
 have o1:((r.size:Int) !=16)=Av:=by simp;omega
 by_cases g2:JI f ze=Aw
 case neg=>
  rw[zL (fun h=>g2 h.2.1)];rw[Bool.not_eq_true] at g2;rw[g2] at K1;go_enter func59,ntmps59
  go_wp2_with fail
  rw[<-g0.out,<-h0.out,<-HA.out,<-n0.out];refine(K1 _ (Az _ _)).mono ?_;rintro e w1 ⟨rfl,b1⟩;go_wp2_with fail
  go_ret
  exact⟨rfl,jA e0 b1⟩
 rw[g2] at K1;by_cases g3:JI f zr=Aw
 case neg=>
  rw[zL (fun h=>g3 h.2.2.1)];rw[Bool.not_eq_true] at g3;rw[g3] at K2;go_enter func59,ntmps59
  go_wp2_with fail
  rw[<-g0.out,<-h0.out,<-HA.out,<-n0.out];refine(K1 _ (Az _ _)).mono ?_;rintro e w1 ⟨rfl,b1⟩;have i0:=hd b1;have j2:=(b1.cell (p:=A) lA).trans r0;have k2:=(b1.cell (p:=Q A 1 I) lA).trans r1;have m2:=(b1.cell (p:=Q A 2 I) lA).trans r2;have s1:=(b1.cell (p:=B) lB).trans q0;have t1:=(b1.cell (p:=Q B 1 I) lB).trans q1;have u1:=(b1.cell (p:=Q B 2 I) lB).trans q2;have v1:=(b1.cell (p:=Q B 3 I) lB).trans q3;have x1:=(b1.cell (p:=Q B 4 I) lB).trans q4;have y1:=(b1.cell (p:=Q B 5 I) lB).trans q5;have z1:=(b1.cell (p:=Q B 6 I) lB).trans q6;have e2:=(b1.cell (p:=Q B 7 I) lB).trans q7;have f2:=(b1.cell (p:=Q B 8 I) lB).trans q8;have i2:=(b1.cell (p:=Q B 9 I) lB).trans q9;have s0:=(b1.cell (p:=Q B 10 I) lB).trans j0;have t0:=(b1.cell (p:=Q B 11 I) lB).trans k0;have u0:=(b1.cell (p:=Q B 12 I) lB).trans m0;go_wp2_with fail
  refine(K2 _ i0).mono ?_;rintro e w2 ⟨rfl,b2⟩;go_wp2_with fail
  go_ret
  exact⟨rfl,jA e0 (jA i0 b2)⟩
 rw[g3] at K2;have G:H (r.size=16/\JI f ze=Aw/\JI f zr=Aw):=⟨g1,g2,g3⟩;obtain⟨x,HX⟩:=nnH (stI f ze.length zr.length);rw[HX.out] at K3;obtain⟨mb,HM⟩:=nnH (vU r id f p.r p.k p.n p.i p.b p.m p.S);rw[HM.out] at K4;have hx:x=0\/x=1\/x=2:=by
  rw[<-HX.out];unfold stI;split
  .exact .inr (.inr rfl)
  .split
   .exact .inr (.inl rfl)
   .split
    .exact .inr (.inl rfl)
    .exact .inl rfl
 go_enter func59,ntmps59
 go_wp2_with fail
 rw[<-g0.out,<-h0.out,<-HA.out,<-n0.out];refine(K1 _ (Az _ _)).mono ?_;rintro e w1 ⟨rfl,b1⟩;have i0:=hd b1;have j2:=(b1.cell (p:=A) lA).trans r0;have k2:=(b1.cell (p:=Q A 1 I) lA).trans r1;have m2:=(b1.cell (p:=Q A 2 I) lA).trans r2;have s1:=(b1.cell (p:=B) lB).trans q0;have t1:=(b1.cell (p:=Q B 1 I) lB).trans q1;have u1:=(b1.cell (p:=Q B 2 I) lB).trans q2;have v1:=(b1.cell (p:=Q B 3 I) lB).trans q3;have x1:=(b1.cell (p:=Q B 4 I) lB).trans q4;have y1:=(b1.cell (p:=Q B 5 I) lB).trans q5;have z1:=(b1.cell (p:=Q B 6 I) lB).trans q6;have e2:=(b1.cell (p:=Q B 7 I) lB).trans q7;have f2:=(b1.cell (p:=Q B 8 I) lB).trans q8;have i2:=(b1.cell (p:=Q B 9 I) lB).trans q9;have s0:=(b1.cell (p:=Q B 10 I) lB).trans j0;have t0:=(b1.cell (p:=Q B 11 I) lB).trans k0;have u0:=(b1.cell (p:=Q B 12 I) lB).trans m0;go_wp2_with fail
 refine(K2 _ i0).mono ?_;rintro e w2 ⟨rfl,b2⟩;have d0:=hd (jA i0 b2);have x3:=(d0.cell (p:=A) lA).trans r0;have y3:=(d0.cell (p:=Q A 1 I) lA).trans r1;have z3:=(d0.cell (p:=Q A 2 I) lA).trans r2;have l3:=(d0.cell (p:=B) lB).trans q0;have m3:=(d0.cell (p:=Q B 1 I) lB).trans q1;have n3:=(d0.cell (p:=Q B 2 I) lB).trans q2;have o3:=(d0.cell (p:=Q B 3 I) lB).trans q3;have p3:=(d0.cell (p:=Q B 4 I) lB).trans q4;have r3:=(d0.cell (p:=Q B 5 I) lB).trans q5;have s3:=(d0.cell (p:=Q B 6 I) lB).trans q6;have t3:=(d0.cell (p:=Q B 7 I) lB).trans q7;have u3:=(d0.cell (p:=Q B 8 I) lB).trans q8;have v3:=(d0.cell (p:=Q B 9 I) lB).trans q9;have e3:=(d0.cell (p:=Q B 10 I) lB).trans j0;have f3:=(d0.cell (p:=Q B 11 I) lB).trans k0;have h3:=(d0.cell (p:=Q B 12 I) lB).trans m0;have B2:=hd (jA e0 d0);cases be <;> cases bh <;> cases bo <;> cases bd
 all_goals go_wp2_with fail
 all_goals first
  | (
   go_ret
   exact⟨jT (zL (fun h=>by have h4:=h.2.2.2.1;have h5:=h.2.2.2.2.1;simp at h4 h5)).symm,B2⟩)
  | (
   refine(K3 _).mono ?_;rintro e w3 ⟨rfl,b3⟩;have c0:=hd (jA d0 b3);have k1:=(c0.cell (p:=A) lA).trans r0;have m1:=(c0.cell (p:=Q A 1 I) lA).trans r1;have n1:=(c0.cell (p:=Q A 2 I) lA).trans r2;have v0:=(c0.cell (p:=B) lB).trans q0;have x0:=(c0.cell (p:=Q B 1 I) lB).trans q1;have y0:=(c0.cell (p:=Q B 2 I) lB).trans q2;have z0:=(c0.cell (p:=Q B 3 I) lB).trans q3;have e1:=(c0.cell (p:=Q B 4 I) lB).trans q4;have f1:=(c0.cell (p:=Q B 5 I) lB).trans q5;have i1:=(c0.cell (p:=Q B 6 I) lB).trans q6;have j1:=(c0.cell (p:=Q B 7 I) lB).trans q7;have a4:=(c0.cell (p:=Q B 8 I) lB).trans q8;have b4:=(c0.cell (p:=Q B 9 I) lB).trans q9;have i3:=(c0.cell (p:=Q B 10 I) lB).trans j0;have j3:=(c0.cell (p:=Q B 11 I) lB).trans k0;have k3:=(c0.cell (p:=Q B 12 I) lB).trans m0;rcases hx with rfl|rfl|rfl;all_goals go_wp2_with fail
   all_goals first
    | (
     go_ret
     exact⟨jT (zL (fun h=>by have h6:=h.2.2.2.2.2.1;have h7:=h.2.2.2.2.2.2.1;simp[HX.out] at h6 h7)).symm,jA e0 c0⟩)
    | (
     have b0:∀ {X},X<w0.1.size->X<w3.1.size:=fun h=>Bu h c0.size
     first
      | (go_region_held3 (fun w'=>w'.cell? ⟨A,0,I⟩=M (Ao Ar id)/\w'.cell? ⟨A,1,I⟩=M (Ao Ar f)/\w'.cell? ⟨A,2,I⟩=M (v)/\w'.cell? ⟨B,0,I⟩=M (Ag r)/\w'.cell? ⟨B,1,I⟩=M (Ag p.r)/\w'.cell? ⟨B,2,I⟩=M (Ao Ar p.k)/\w'.cell? ⟨B,3,I⟩=M (Ao Ar p.n)/\w'.cell? ⟨B,4,I⟩=M (Ao Ar p.i)/\w'.cell? ⟨B,5,I⟩=M (Ag p.b)/\w'.cell? ⟨B,6,I⟩=M (V a6 p.m c6)/\w'.cell? ⟨B,7,I⟩=M (.bool Aw)) (go_keep) ((go_at_call 119;refine Ax (K4 _ (Cz c0 _)) ?_;rintro e w9 ⟨rfl,f0⟩;have a0:=jC f0;clear f0;have y2:=(a0.cell (p:=⟨A,0,I⟩) (b0 lA)).trans k1;have z2:=(a0.cell (p:=⟨A,1,I⟩) (b0 lA)).trans m1;have a3:=(a0.cell (p:=⟨A,2,I⟩) (b0 lA)).trans n1;have n2:=(a0.cell (p:=⟨B,0,I⟩) (b0 lB)).trans v0;have o2:=(a0.cell (p:=⟨B,1,I⟩) (b0 lB)).trans x0;have p2:=(a0.cell (p:=⟨B,2,I⟩) (b0 lB)).trans y0;have s2:=(a0.cell (p:=⟨B,3,I⟩) (b0 lB)).trans z0;have t2:=(a0.cell (p:=⟨B,4,I⟩) (b0 lB)).trans e1;have u2:=(a0.cell (p:=⟨B,5,I⟩) (b0 lB)).trans f1;have v2:=(a0.cell (p:=⟨B,6,I⟩) (b0 lB)).trans i1;have x2:=(a0.cell (p:=⟨B,7,I⟩) (b0 lB)).trans j1)))
      | (go_region_held3 (fun w'=>w'.cell? ⟨A,0,I⟩=M (Ao Ar id)/\w'.cell? ⟨A,1,I⟩=M (Ao Ar f)/\w'.cell? ⟨A,2,I⟩=M (v)/\w'.cell? ⟨B,0,I⟩=M (Ag r)/\w'.cell? ⟨B,1,I⟩=M (Ag p.r)/\w'.cell? ⟨B,2,I⟩=M (Ao Ar p.k)/\w'.cell? ⟨B,3,I⟩=M (Ao Ar p.n)/\w'.cell? ⟨B,4,I⟩=M (Ao Ar p.i)/\w'.cell? ⟨B,5,I⟩=M (Ag p.b)/\w'.cell? ⟨B,6,I⟩=M (V a6 p.m c6)/\w'.cell? ⟨B,7,I⟩=M (.bool Av)) (go_keep) ((go_at_call 119;refine Ax (K4 _ (Cz c0 _)) ?_;rintro e w9 ⟨rfl,f0⟩;have a0:=jC f0;clear f0;have y2:=(a0.cell (p:=⟨A,0,I⟩) (b0 lA)).trans k1;have z2:=(a0.cell (p:=⟨A,1,I⟩) (b0 lA)).trans m1;have a3:=(a0.cell (p:=⟨A,2,I⟩) (b0 lA)).trans n1;have n2:=(a0.cell (p:=⟨B,0,I⟩) (b0 lB)).trans v0;have o2:=(a0.cell (p:=⟨B,1,I⟩) (b0 lB)).trans x0;have p2:=(a0.cell (p:=⟨B,2,I⟩) (b0 lB)).trans y0;have s2:=(a0.cell (p:=⟨B,3,I⟩) (b0 lB)).trans z0;have t2:=(a0.cell (p:=⟨B,4,I⟩) (b0 lB)).trans e1;have u2:=(a0.cell (p:=⟨B,5,I⟩) (b0 lB)).trans f1;have v2:=(a0.cell (p:=⟨B,6,I⟩) (b0 lB)).trans i1;have x2:=(a0.cell (p:=⟨B,7,I⟩) (b0 lB)).trans j1)))
     all_goals
      go_wp2
      go_ret
      refine⟨jT ?_,jA e0 (jA c0 a0)⟩;rw[jNk G.out.1 G.out.2.1 G.out.2.2 (by simp) (by simp) (by simp[HX.out]) (by simp[HX.out]) HM.out];cases mb <;> rfl))
theorem jHs (id f:Int) (v:Aj) (s:Sl) (a6 a1 a2:OA) (c6 c1 c2:Nat) (w:Ad) (hT:jL w a6 s.p.m s.p.S) (hE:jH w a1 s.ze.length s.ze) (hZ:jH w a2 s.zr.length s.zr) (hf:1<=f/\f<=3) (hm:s.p.m<=1048576) (hL:∀ i,i<s.p.m->(s.p.S i).size<=Au) (h1:s.ze.length<=1048576) (h2:s.zr.length<=1048576):CB 59 #[ndV id f v,slV s (V a6 s.p.m c6) (V a1 s.ze.length c1) (V a2 s.zr.length c2)] w (jD6 id f s):=by
 obtain⟨r,p,bh,be,bd,bo,ze,zr⟩:=s;exact jMm id f v r p bh be bd bo ze zr a6 a1 a2 c6 c1 c2 w hT hE hZ hf hm hL h1 h2
def NdP (id f:Int) (n:Nat) (S:Nat->Sl):Prop:=seB id f=Aw/\n<=40/\∀ i,i<n->zC id f (S i)/\∀ j,j<i->(S j).r≠(S i).r
noncomputable def ndB (id f:Int) (n:Nat) (S:Nat->Sl):Bool:=@decide (NdP id f n S) (Classical.propDecidable _)
theorem jAe {id f:Int} {n:Nat} {S:Nat->Sl} (h:NdP id f n S):ndB id f n S=Aw:=by unfold ndB;exact @Bf _ (Classical.propDecidable _) h
theorem xY {id f:Int} {n:Nat} {S:Nat->Sl} (h:¬ NdP id f n S):ndB id f n S=Av:=by unfold ndB;exact @Bg _ (Classical.propDecidable _) h
theorem ZG {id f:Int} (h:seB id f=Aw):1<=f/\f<=3:=by
 have:=Dn h
 exact⟨this.1,this.2.1⟩
structure SlN (s:Sl):Prop where
 m:s.p.m<=1048576
 tx:∀ i,i<s.p.m->(s.p.S i).size<=Au
 ne:s.ze.length<=1048576
 nr:s.zr.length<=1048576
theorem jSa {S:Nat->Sl} {n i:Nat} (hi:i<n) (h:∀ j,j<i->(S j).r≠(S i).r):¬ plX S (S i).r n<(i:Int):=by
 unfold plX;cases e:plc S (S i).r n with
 | none=>exact Bo rfl (ZK e i (by omega) (by omega))
 | some x=>
  obtain⟨_,h2,h3,h4⟩:=xC e;show ¬ (x:Int)<(i:Int);intro hx;exact h x (by omega) h3
theorem jQd {S:Nat->Sl} {n i j:Nat} (hi:i<n) (hj:j<i) (h:(S j).r=(S i).r):plX S (S i).r n<(i:Int):=by
 unfold plX;cases e:plc S (S i).r n with
 | none=>exact Bo h (ZK e j (by omega) (by omega))
 | some x=>
  obtain⟨_,h2,h3,h4⟩:=xC e;show (x:Int)<(i:Int);by_cases hx:x<i
  .omega
  .exact Bo h (h4 j (by omega) (by omega))
theorem xE {y:Nat->Aj} {c0 c1 c2 c3 c4 c5 c6 c7 c8 c9 a0 b0 d0:Aj} (h:jFy y=Ai #[c0,c1,c2,c3,c4,c5,c6,c7,c8,c9,a0,b0,d0]):[y 0,y 1,y 2,y 3,y 4,y 5,y 6,y 7,y 8,y 9,y 10,y 11,y 12]=[c0,c1,c2,c3,c4,c5,c6,c7,c8,c9,a0,b0,d0]:=by
 have h':=D8 (fun v=>match v with|Ai a=>a.toList|_=>[]) h;exact h'
abbrev slL (s:Sl) (v6 v11 v12:Aj):List Aj:=[Ag s.r,Ag s.p.r,Ao Ar s.p.k,Ao Ar s.p.n,Ao Ar s.p.i,Ag s.p.b,v6,.bool s.h,.bool s.e,.bool s.d,.bool s.o,v11,v12]
theorem QG {w:Ad} {n:Nat} {S:Nat->Sl} {a:OA} {cap:Nat} (h:Rd w (qH n S) (V a n cap)) {i:Nat} (hi:i<n):∃ (b off:Nat) (a6 a0 b0:OA) (c6 c0 d0:Nat),a=M (Q b off I)/\w.rangeAt b (off+i*13) (slL (S i) (V a6 (S i).p.m c6) (V a0 (S i).ze.length c0) (V b0 (S i).zr.length d0))/\jL w a6 (S i).p.m (S i).p.S/\jH w a0 (S i).ze.length (S i).ze/\jH w b0 (S i).zr.length (S i).zr:=by
 obtain⟨b,off,y,a6,a0,b0,c6,c0,d0,ea,hc,e,t6,e0,f0⟩:=vJ h hi;obtain⟨_,x⟩:=zK (sz:=12) w (Az _ _) hc;have R:=XK x;rw[xE e] at R;exact⟨b,off,a6,a0,b0,c6,c0,d0,ea,R,t6,e0,f0⟩
theorem jHz (id f:Int) (a:OA) (n cap:Nat) (S:Nat->Sl) (w:Ad) (h:Rd w (qH n S) (V a n cap)) (hn:n<=1048576) (hs:∀ i,i<n->SlN (S i)):CB 13 #[ndV id f (V a n cap)] w (ndB id f n S):=by
 obtain⟨A,HA⟩:=nmH w.1.size;obtain⟨w0,c0⟩:=nmH (w.alloc (J #[id,f,V a n cap] 26));have HR:=jZ c0 HA;have b0:=bl1 c0;have d0:H (Ab w w w0):=b0;have KS:H _:=jC9 id f (V a n cap) w0;have KH:H (Rd w0 (qH n S) (V a n cap)):=h.below b0;have KN:H (∀ i,i<n->SlN (S i)):=hs;clear h b0 hs;cases hse:seB id f with
 | false=>
  rw[hse] at KS;rw[xY (fun h=>by have:=h.1;rw[hse] at this;cases this)];go_enter func13,ntmps13
  go_wp2_with fail
  rw[<-c0.out,<-HA.out];refine CM KS.out fun w1 b1=>?_
  go_wp2
  go_ret
  exact⟨rfl,jA d0 b1⟩
 | true=>
  rw[hse] at KS;have HF:H (1<=f/\f<=3):=ZG hse;have a1:H (seB id f=Aw):=hse;clear hse;by_cases h40:n<=40
  case neg=>
   rw[xY (fun h=>h40 h.2.1)];have r0:(n:Int)>40:=by omega
   go_enter func13,ntmps13
   go_wp2_with fail
   rw[<-c0.out,<-HA.out];refine CM KS.out fun w1 b1=>?_
   have x2:=(HR.below b1 HR.lt).cell 2;simp at x2;go_wp2
   go_ret
   exact⟨rfl,jA d0 b1⟩
  have r0:¬ (n:Int)>40:=by omega
  go_enter func13,ntmps13
  go_wp2_with fail
  rw[<-c0.out,<-HA.out];refine CM KS.out fun w1 b1=>?_
  have KB1:H (Ab w0 w0 w1):=b1;have x2:=(HR.below b1 HR.lt).cell 2;simp at x2;clear b1;go_wp2_with fail
  go_loopw [17] (fun vi wr=>∃ k:Nat,k<=n/\vi=Ao Ar (k:Int)/\H (∀ i,i<k->zC id f (S i)/\∀ j,j<i->(S j).r≠(S i).r)/\Ab w0 w0 wr) (fun vi _=>n-(intOf vi).toNat)
  case atStart=>exact⟨0,Bi _,rfl,fun i hi=>Bo hi (Bk _),KB1⟩
  case round=>
   clear x2 KB1;obtain⟨k,hk,rfl,HP,a0⟩:=hrel;by_cases hlt:k<n
   .have c1:(k:Int)<(n:Int):=by omega
    obtain⟨b1,f1,p6,e0,f0,q6,g0,h0,rfl,R1,t6,s0,t0⟩:=QG (KH.below a0) hlt;have R1:H _:=R1;obtain⟨B2,o0⟩:=nmH wr.1.size;obtain⟨w2,j0⟩:=nmH (wr.alloc (J (slC (S k) (V p6 (S k).p.m q6) (V e0 (S k).ze.length g0) (V f0 (S k).zr.length h0)) 42));have b2:=bl1 j0;have p0:=jZ j0 o0;have m0:H (Ab w0 w0 w2):=jA a0 b2;obtain⟨px,k0⟩:=nnH (plX S (S k).r n);have KP:H _:=QA id f (Q b1 f1 I) n cap S (S k).r w2 (KH.below m0) hn;rw[k0.out] at KP;have KI:H (∀ W,Ab w2 w2 W->CB 59 #[ndV id f (V (Q b1 f1 I) n cap),slV (S k) (V p6 (S k).p.m q6) (V e0 (S k).ze.length g0) (V f0 (S k).zr.length h0)] W (jD6 id f (S k))):=fun W hW=>jHs id f _ (S k) p6 e0 f0 q6 g0 h0 W ((t6.below b2).below hW) ((s0.below b2).below hW) ((t0.below b2).below hW) HF (KN k hlt).m (KN k hlt).tx (KN k hlt).ne (KN k hlt).nr
    have RA:=HR.below a0 HR.lt;obtain⟨x0,x1,x2⟩:=RA.c3 0 1 2;simp at x0 x1 x2;have lA:=RA.lt;have i0:H (k<n):=hlt;clear t6 s0 t0 b2 RA a0;by_cases hp:px<(k:Int)
    .have HN:H (ndB id f n S=Av):=xY fun h=>(jSa i0 (h.2.2 k i0).2) (by rw[k0.out];exact hp)
     go_wp2_with (refine Bv rfl 42 _ rfl b1 (f1+k*13) rfl (slL (S k) (V p6 (S k).p.m q6) (V e0 (S k).ze.length g0) (V f0 (S k).zr.length h0)) _ ?_ C5 rfl Tryz.infoSl ?_;exact R1)
     rw[<-j0.out];refine CM KP.out fun w3 b3=>?_
     have n0:H (Ab w0 w0 w3):=jA m0 b3;clear b3 x0 x1 x2;go_wp2
     go_ret
     exact⟨jT HN.symm,jA d0 n0⟩
    have HQ:H (∀ j,j<k->(S j).r≠(S k).r):=fun j hj e=>hp (by rw[<-k0.out];exact jQd i0 hj e)
    go_wp2_with (refine Bv rfl 42 _ rfl b1 (f1+k*13) rfl (slL (S k) (V p6 (S k).p.m q6) (V e0 (S k).ze.length g0) (V f0 (S k).zr.length h0)) _ ?_ C5 rfl Tryz.infoSl ?_;exact R1)
    rw[<-j0.out,<-o0.out];refine CM KP.out fun w3 b3=>?_
    have n0:H (Ab w2 w2 w3):=b3;have q0:H (Ab w0 w0 w3):=jA m0 b3;have RA:=HR.below q0 HR.lt;replace x0:=RA.cell 0
    replace x1:=RA.cell 1
    replace x2:=RA.cell 2
    have RB:=p0.below b3 p0.lt;obtain⟨z0,z1,z2,z3,z4,z5⟩:=RB.c6 0 1 2 3 4 5;obtain⟨z6,z7,z8,z9,u0,v0⟩:=RB.c6 6 7 8 9 10 11;have y0:=RB.cell 12;simp at x0 x1 x2 z0 z1 z2 z3 z4 z5 z6 z7 z8 z9 u0 v0 y0;clear b3 RA RB R1;go_wp2_with fail
    refine CM (KI _ n0) fun w4 b4=>?_
    have KB5:H (Ab w0 w0 w4):=jA q0 b4;clear x0 x1 x2 z0 z1 z2 z3 z4 z5 z6 z7 z8 z9 u0 v0 y0 b4;by_cases hq:zC id f (S k)
    .have HP2:H (∀ i,i<k+1->zC id f (S i)/\∀ j,j<i->(S j).r≠(S i).r):=fun i hi=>by
      by_cases e:i=k
      .subst e;exact⟨hq,HQ.out⟩
      .exact HP i (by omega)
     rw[jD7 hq];go_wp2
     go_roundw
     case rel=>exact⟨k+1,by omega,by go_num,HP2,KB5.out⟩
     case measure=>simp[intOf];omega
    .have HN:H (ndB id f n S=Av):=xY fun h=>hq (h.2.2 k i0).1
     rw[zL hq];go_wp2
     go_ret
     exact⟨jT HN.symm,jA d0 KB5⟩
   .obtain rfl:k=n:=by omega
    have HY:H (ndB id f k S=Aw):=jAe ⟨a1,h40,HP⟩;go_wp2
    go_ret
    exact⟨jT HY.symm,jA d0 a0⟩
section
open Go.ChangeShapes Go.WideShapes Go.ChangeAt Go.RowKit Go.Sort
noncomputable def liB (f:Int) (zs:List Int):Bool:=decide ((zs.length:Int)<=f)&&JI f zs
theorem jCt (f:Int) (a:OA) (cap:Nat) (zs:List Int) (w:Ad) (h:jH w a zs.length zs) (hf:1<=f/\f<=3) (hn:zs.length<=1048576):CB 73 #[V a zs.length cap,f] w (liB f zs):=by
 have KA:H _:=zT 0 f (V I 0 0) a zs.length cap zs w h hf hn;obtain⟨n,HN⟩:=nnH zs.length;unfold liB;rw[HN.out] at KA |-;by_cases hl:(n:Int)<=f
 .rw[Bf hl,Gx];go_enter func73,ntmps73
  go_wp2_with fail
  refine CM KA.out fun w1 b1=>?_
  go_wp2
  go_ret
  exact⟨rfl,b1⟩
 .rw[Bg hl,Bool.false_and];go_enter func73,ntmps73
  go_wp2
  go_ret
  exact⟨rfl,Az _ _⟩
def seD (d:Nd) (i:Nat) (f:Int):Nat->Dt
 | 0=>.val (Ao Ar d.i)
 | 1=>.val (Ao Ar d.f)
 | 2=>qH d.n d.S
 | 3=>.val (Ao Ar (i:Int))
 | _=>.val (Ao Ar f)
def jSs (n:Nat) (N:Nat->Nd) (f:Int):Dt:=.lst 124 5 n fun i=>seD (N i) i f
def zcE:List Aj:=[Ao Ar 0,Ao Ar 0,V I 0 0,Ao Ar 0,Ao Ar 0]
theorem Tryz.infoSeZ:(Tryz.prog.info? 124).map (fun i=>(i.zero,i.size,i.bytes))=M (M (Ai zcE.toArray),5,56):=by kernel_rfl
theorem Tryz.infoSe:(Tryz.prog.info? 124).map (·.size)=M 5:=by kernel_rfl
theorem jLf (f:Int) (a:OA) (n c:Nat) (v2 v3:Aj) (N:Nat->Nd) (w:Ad) (h:Rd w (qR n N) (V a n c)) (hn:n<=1048576):Ak prog 74 #[ntV f (V a n c) v2 v3] w fun e w'=>∃ g,e=Ae (V (Q g 0 I) n n)/\Rd w' (jSs n N f) (V (Q g 0 I) n n)/\Ab w w w':=by
 obtain⟨i0,hi,q0,r0,s0⟩:=Cg Tryz.infoSeZ;obtain⟨A,HA⟩:=nmH w.1.size;obtain⟨w0,g0⟩:=nmH (w.alloc (J #[f,V a n c,v2,v3] 48));have RA:=jZ g0 HA;have j0:=bl1 g0;have p0:=hd j0;have KH:=hd (h.below j0);obtain⟨g,HG⟩:=nmH w0.1.size;have x1:=RA.cell 1;simp at x1;clear h j0;go_enter func74,ntmps74
 go_wp2_with (at_make;rw[<-g0.out,<-HA.out];refine Cv _ rfl _ _ 119 rfl w0 124 i0 (Ai zcE.toArray) 5 underlying119 hi q0 r0 Ar Ar _ _ n rfl rfl rfl rfl (by rw[s0];omega) (by unfold Au;omega) (Ay _) ?_;intro w1 c0 b0;have hb1:Ab w0 w0 w1:=(Az _ _).grown b0 (Ay _) (by simp);have y1:=(hb1.cell (p:=Q A 1 I) RA.lt).trans x1)
 have n0:w1.ownsRow w0 124 5 (V (Q g 0 I) n n) n (cL 5 (fun _ q=>zcE.getD q O) n):=by
  have e:(madeCells (Ai zcE.toArray).cells (n*5)).toList=cL 5 (fun _ q=>zcE.getD q O) n:=xH (zs:=zcE) (by simp[zcE]);rw[e] at c0;rw[HG.out];exact c0
 rw[<-HG.out];have KO1:=hd n0;clear c0 b0 n0;go_loopw [13] (fun vi wr=>∃ k:Nat,k<=n/\vi=Ao Ar (k:Int)/\H (∃ y,wr.ownsRow w0 124 5 (V (Q g 0 I) n n) n (cL 5 y n)/\∀ i,i<k->∀ q,q<5->Rd w0 (seD (N i) i f q) (y i q))/\Ab w0 w0 wr) (fun vi _=>n-(intOf vi).toNat)
 case atStart=>exact⟨0,Bi _,rfl,⟨_,KO1,fun i hi=>Bo hi (Bk _)⟩,hb1⟩
 case round=>
  obtain⟨k,hk,rfl,HY,a0⟩:=hrel;clear KO1 hb1 y1 x1;by_cases hlt:k<n
  .have t0:(k:Int)<(n:Int):=by omega
   obtain⟨b1,f1,an,cn,rfl,_,R0,o0⟩:=zJ KH hlt;have R1:H (wr.rangeAt b1 (f1+k*3) [Ao Ar (N k).i,Ao Ar (N k).f,V an (N k).n cn]):=fun j v hv=>(a0.cell (A7 (R0 j v hv))).trans (R0 j v hv)
   obtain⟨w2,k0⟩:=nmH (wr.alloc (J #[Ao Ar (N k).i,Ao Ar (N k).f,V an (N k).n cn] 26));have b2:=bl1 k0;obtain⟨y,e0,f0⟩:=HY.out;have d0:=jE e0 b2;have TH:H (w2.there g (k*5) 5):=by
    intro j hj;refine⟨?_,B0 d0 _⟩;rw[Br d0 _ (qM hlt hj),jU _ _ _ _ _ hlt hj];rfl
   have x0:=(RA.below a0 RA.lt).cell 0;have lA:=(RA.below a0 RA.lt).lt;simp at x0;obtain⟨w3,h0⟩:=nmH (w2.setCells g (k*5) [Ao Ar (N k).i,Ao Ar (N k).f,V an (N k).n cn,(k:Int),f]);have HY3:H (∃ y,w3.ownsRow w0 124 5 (V (Q g 0 I) n n) n (cL 5 y n)/\∀ i,i<k+1->∀ q,q<5->Rd w0 (seD (N i) i f q) (y i q)):=by
    rw[h0.out];have:=qJ hlt [Ao Ar (N k).i,Ao Ar (N k).f,V an (N k).n cn,(k:Int),f] 0 w2 y rfl d0
    rw[Cp] at this;refine⟨_,this,fun i hi q hq=>?_⟩;by_cases e:i=k
    .subst e;match q,hq with
     | 0,_|1,_|3,_|4,_=>simp[seD,Rd]
     | 2,_=>simpa [seD] using o0
    .simp only[e,false_and,Dj];exact f0 i (by omega) q hq
   have m0:w0.1.size<=g:=by rw[HG.out];exact Ay _
   have KB3:H (Ab w0 w0 w3):=by show Ab _ _ _;rw[h0.out];exact jR (jA a0 b2) m0 _ _
   clear HY e0 d0 b2 R0 o0 a0 f0 m0;go_wp2_with (first|(refine Bv rfl 26 _ rfl b1 (f1+k*3) rfl [Ao Ar (N k).i,Ao Ar (N k).f,V an (N k).n cn] _ ?_ Ch rfl Tryz.infoNd ?_;exact R1)|(rw[<-k0.out];refine C7 rfl 124 _ _ rfl g (k*5) #[Ao Ar (N k).i,Ao Ar (N k).f,V an (N k).n cn,(k:Int),f] rfl rfl ?_ Tryz.infoSe (by simp[Aq]) ?_;exact TH;rw[<-h0.out]))
   go_roundw
   case rel=>exact⟨k+1,by omega,by go_num,HY3,KB3.out⟩
   case measure=>simp[intOf];omega
  .obtain rfl:k=n:=by omega
   have HF:H (Rd wr (jSs k N f) (V (Q g 0 I) k k)):=by
    obtain⟨y,e0,f0⟩:=HY.out;refine⟨_,_,rfl,fun i hi=>⟨g,0,rfl,fun q hq=>⟨y i q,?_,(f0 i hi q hq).below a0⟩⟩⟩;rw[Bt,Br e0 _ (qM hi hq),jU _ _ _ _ _ hi hq]
   go_wp2
   go_ret
   exact⟨g,rfl,HF,jA p0 a0⟩
theorem jEw (i0 f0 bi bf:Int) (an:OA) (nn cn:Nat) (S:Nat->Sl) (w:Ad) (h:Rd w (qH nn S) (V an nn cn)) (hn:nn<=1048576) (hs:∀ i,i<nn->SlN (S i)):CB 75 #[Ai #[i0,f0,V an nn cn,bi,bf]] w (decide (bi=i0/\bf=f0)&&ndB i0 f0 nn S):=by
 obtain⟨w0,a0⟩:=nmH (w.alloc (J #[i0,f0,V an nn cn,bi,bf] 124));have c0:=bl1 a0;have b0:=hd c0;have KN:H _:=jHz i0 f0 an nn cn S w0 (h.below c0) hn hs;by_cases e1:bi=i0
 .by_cases e2:bf=f0
  .rw[Bf ⟨e1,e2⟩,Gx];subst e1 e2;go_enter func75,ntmps75
   go_wp2_with fail
   rw[<-a0.out];refine CM KN.out fun w1 b1=>?_
   go_wp2
   go_ret
   exact⟨rfl,jA b0 b1⟩
  .rw[Bg (fun h=>e2 h.2),Bool.false_and];have e0:(bf==f0)=Av:=by simp[e2]
   subst e1;go_enter func75,ntmps75
   go_wp2
   rw[<-a0.out];go_ret
   exact⟨rfl,b0⟩
 .rw[Bg (fun h=>e1 h.1),Bool.false_and];have d0:(bi==i0)=Av:=by simp[e1]
  go_enter func75,ntmps75
  go_wp2
  rw[<-a0.out];go_ret
  exact⟨rfl,b0⟩
def NtP (f:Int) (n:Nat) (N:Nat->Nd) (zs:List Int) (m:Nat):Prop:=(1<=f/\f<=3)/\(n:Int)=3*f+1/\(zs.length:Int)<=f/\JI f zs=Aw/\m<=3000/\∀ i,i<n->(N i).i=(i:Int)/\(N i).f=f/\NdP (N i).i (N i).f (N i).n (N i).S
noncomputable def ntB (f:Int) (n:Nat) (N:Nat->Nd) (zs:List Int) (m:Nat):Bool:=@decide (NtP f n N zs m) (Classical.propDecidable _)
theorem jBx {f:Int} {n:Nat} {N:Nat->Nd} {zs:List Int} {m:Nat} (h:NtP f n N zs m):ntB f n N zs m=Aw:=by unfold ntB;exact @Bf _ (Classical.propDecidable _) h
theorem xP {f:Int} {n:Nat} {N:Nat->Nd} {zs:List Int} {m:Nat} (h:¬ NtP f n N zs m):ntB f n N zs m=Av:=by unfold ntB;exact @Bg _ (Classical.propDecidable _) h
structure NdN (d:Nd):Prop where
 n:d.n<=1048576
 s:∀ i,i<d.n->SlN (d.S i)
theorem jQn {w:Ad} {n:Nat} {N:Nat->Nd} {f:Int} {a:OA} {cap:Nat} (h:Rd w (jSs n N f) (V a n cap)) {k:Nat} (hk:k<n):∃ (b off:Nat) (an:OA) (cn:Nat),a=M (Q b off I)/\w.rangeAt b (off+k*5) [Ao Ar (N k).i,Ao Ar (N k).f,V an (N k).n cn,(k:Int),f]/\Rd w (qH (N k).n (N k).S) (V an (N k).n cn):=by
 obtain⟨b,off,y,ea,hy,hr⟩:=h.row hk;have r2:=hr 2 (by omega);obtain⟨an,cn,e2⟩:=r2.shape;rw[e2] at r2;have g0:=hr 0 (by omega);have g1:=hr 1 (by omega);have g3:=hr 3 (by omega);have g4:=hr 4 (by omega);simp only[Rd,seD] at g0 g1 g3 g4;refine⟨b,off,an,cn,ea,fun j v hv=>?_,r2⟩;have hj:=(Ca.1 hv).1;have c:=hy j hj;rw[<-Ef] at c;rw[c,<-hv];match j,hj with
 | 0,_=>rw[g0];rfl
 | 1,_=>rw[g1];rfl
 | 2,_=>rw[e2];rfl
 | 3,_=>rw[g3];rfl
 | 4,_=>rw[g4];rfl
theorem jDl (f:Int) (a:OA) (n c:Nat) (l:OA) (zs:List Int) (d:Nat) (e:OA) (m g:Nat) (N:Nat->Nd) (w:Ad) (h1:Rd w (qR n N) (V a n c)) (h2:jH w l zs.length zs) (hn:n<=1048576) (hz:zs.length<=1048576) (hN:∀ i,i<n->NdN (N i)):CB 21 #[Ai #[f,V a n c,V l zs.length d,V e m g]] w (ntB f n N zs m):=by
 obtain⟨A,HA⟩:=nmH w.1.size;obtain⟨w0,d0⟩:=nmH (w.alloc (J #[f,V a n c,V l zs.length d,V e m g] 48));have RA:=jZ d0 HA;have g0:=bl1 d0;have f0:H (Ab w w w0):=g0;have KH:H (Rd w0 (qR n N) (V a n c)):=h1.below g0;have q0:H (∀ i,i<n->NdN (N i)):=hN;obtain⟨x0,x1,x2,x3⟩:=RA.c4 0 1 2 3;simp at x0 x1 x2 x3;have X0:∀ d os,(grow (redrawn w0 d) os).cell? (Q A 0 I)=_:=fun d os=>cell_regrown x0 d os
 have X1:∀ d os,(grow (redrawn w0 d) os).cell? (Q A 1 I)=_:=fun d os=>cell_regrown x1 d os
 have X2:∀ d os,(grow (redrawn w0 d) os).cell? (Q A 2 I)=_:=fun d os=>cell_regrown x2 d os
 have X3:∀ d os,(grow (redrawn w0 d) os).cell? (Q A 3 I)=_:=fun d os=>cell_regrown x3 d os
 have N1:∀ d os,Ak prog 71 #[f] (grow (redrawn w0 d) os) fun e w'=>e=Ae (fB f)/\∃ p:Regrown,w'=grow (redrawn w0 p.d) p.os:=fun d os=>Calls.regrown_of ((jEv f _).mono fun e w' h=>⟨h.1,by rw[h.2];exact Az _ _⟩)
 by_cases hf:1<=f/\f<=3
 case neg=>
  have e1:fB f=Av:=Bg hf;rw[e1] at N1;have N2:=N1;have N3:=N1;rw[xP (fun h=>hf h.1)];go_enter func21,ntmps21
  go_wp2_with fail
  rw[<-d0.out,<-HA.out];refine wp_region_quiet_below (by kernel_rfl) (by kernel_rfl) ?_;repeat (go_big_quiet_step (first|(with_reducible exact N1 _ _)|(with_reducible exact N2 _ _)|(with_reducible exact N3 _ _)))
  refine Ct ?_;intro _ c0;obtain⟨⟨dq,b0⟩,a0⟩:=c0;subst a0;go_wp2
  go_ret
  exact⟨rfl,jA f0 (below_regrown w0 dq b0)⟩
 have e1:fB f=Aw:=Bf hf;rw[e1] at N1;obtain⟨q,HQ⟩:∃ q:Int,H (3*f+1=q):=⟨_,rfl⟩;have N2:∀ d os,Ak prog 72 #[f] (grow (redrawn w0 d) os) fun e w'=>e=Ae q/\∃ p:Regrown,w'=grow (redrawn w0 p.d) p.os:=fun d os=>Calls.regrown_of ((vH f _ hf).mono fun e w' h=>⟨by rw[h.1,HQ.out],by rw[h.2];exact Az _ _⟩)
 obtain⟨b,i0⟩:=nnH (liB f zs);have N3:∀ d' os,Ak prog 73 #[V l zs.length d,f] (grow (redrawn w0 d') os) fun e w'=>e=Ae b/\∃ p:Regrown,w'=grow (redrawn w0 p.d) p.os:=fun d' os=>Calls.regrown_of (by have:=jCt f l d zs (grow (redrawn w0 d') os) ((h2.below g0).below (below_regrown w0 d' os)) hf hz;rw[i0.out] at this;exact this)
 have HF:H (1<=f/\f<=3):=hf;clear hf e1 h1 h2 hN g0;by_cases hq:(n:Int)=q
 case neg=>
  have c1:((n:Int) !=q)=Aw:=by simp[hq]
  rw[xP (fun h=>hq (h.2.1.trans HQ.out))];go_enter func21,ntmps21
  go_wp2_with fail
  rw[<-d0.out,<-HA.out];refine wp_region_quiet_below (by kernel_rfl) (by kernel_rfl) ?_;repeat (go_big_quiet_step (first|(with_reducible exact N1 _ _)|(with_reducible exact N2 _ _)|(with_reducible exact N3 _ _)))
  refine Ct ?_;intro _ c0;obtain⟨⟨dq,b0⟩,a0⟩:=c0;subst a0;go_wp2
  go_ret
  exact⟨rfl,jA f0 (below_regrown w0 dq b0)⟩
 have c1:((n:Int) !=q)=Av:=by simp[hq]
 cases b with
 | false=>
  rw[xP (fun h=>by have:=i0.out;unfold liB at this;rw[Bf h.2.2.1,h.2.2.2.1] at this;cases this)];go_enter func21,ntmps21
  go_wp2_with fail
  rw[<-d0.out,<-HA.out];refine wp_region_quiet_below (by kernel_rfl) (by kernel_rfl) ?_;repeat (go_big_quiet_step (first|(with_reducible exact N1 _ _)|(with_reducible exact N2 _ _)|(with_reducible exact N3 _ _)))
  refine Ct ?_;intro _ c0;obtain⟨⟨dq,b0⟩,a0⟩:=c0;subst a0;go_wp2
  go_ret
  exact⟨rfl,jA f0 (below_regrown w0 dq b0)⟩
 | true=>
 have m0:H ((zs.length:Int)<=f/\JI f zs=Aw):=by
  have:=i0.out
  unfold liB at this;rw[Cs,Ed] at this;exact this
 by_cases hm:m<=3000
 case neg=>
  have z0:decide ((3000:Int)<(m:Int))=Aw:=Bf (by omega);have a1:(m:Int)>3000:=by omega
  rw[xP (fun h=>hm h.2.2.2.2.1)];go_enter func21,ntmps21
  go_wp2_with fail
  rw[<-d0.out,<-HA.out];refine wp_region_quiet_below (by kernel_rfl) (by kernel_rfl) ?_;repeat (go_big_quiet_step (first|(with_reducible exact N1 _ _)|(with_reducible exact N2 _ _)|(with_reducible exact N3 _ _)))
  refine Ct ?_;intro _ c0;obtain⟨⟨dq,b0⟩,a0⟩:=c0;subst a0;go_wp2
  go_ret
  exact⟨rfl,jA f0 (below_regrown w0 dq b0)⟩
 have z0:decide ((3000:Int)<(m:Int))=Av:=Bg (by omega);have a1:¬ (m:Int)>3000:=by omega
 have u0:H ((n:Int)=3*f+1):=hq.trans HQ.symm;go_enter func21,ntmps21
 go_wp2_with fail
 rw[<-d0.out,<-HA.out];refine wp_region_quiet_below (by kernel_rfl) (by kernel_rfl) ?_;repeat (go_big_quiet_step (first|(with_reducible exact N1 _ _)|(with_reducible exact N2 _ _)|(with_reducible exact N3 _ _)))
 refine Ct ?_;intro _ c0;obtain⟨⟨dq,b0⟩,a0⟩:=c0;subst a0;have j0:H (Ab w0 w0 (grow (redrawn w0 dq) b0)):=below_regrown w0 dq b0;generalize grow (redrawn w0 dq) b0=w1 at *;clear X0 X1 X2 X3 N1 N2 N3;have n0:H (Row w1 A 48 #[f,V a n c,V l zs.length d,V e m g]):=RA.below j0 RA.lt;have r0:H _:=jLf f a n c (V l zs.length d) (V e m g) N w1 (KH.below j0) hn;go_wp2_with (refine Bb rfl 48 _ rfl A rfl 48 #[f,V a n c,V l zs.length d,V e m g] (0,0) _ ?_ Bp rfl Tryz.infoNt ?_;exact n0)
 refine Ax r0.out ?_;rintro e' w2 ⟨gs,rfl,RS,b2⟩;have KR:H (Rd w2 (jSs n N f) (V gs n n)):=RS;have p0:H (Ab w w w2):=jA f0 (jA j0 b2);clear RS b2 x0 x1 x2 x3 r0 n0;go_wp2_with fail
 go_loopw [35] (fun vi wr=>∃ k:Nat,k<=n/\vi=Ao Ar (k:Int)/\H (∀ i,i<k->(N i).i=(i:Int)/\(N i).f=f/\NdP (N i).i (N i).f (N i).n (N i).S)/\Ab w2 w2 wr) (fun vi _=>n-(intOf vi).toNat)
 case atStart=>exact⟨0,Bi _,rfl,fun i hi=>Bo hi (Bk _),Az _ _⟩
 case round=>
  obtain⟨k,hk,rfl,HP,e0⟩:=hrel;by_cases hlt:k<n
  case neg=>
   obtain rfl:k=n:=by omega
   have HY:H (ntB f k N zs m=Aw):=jBx ⟨HF,u0,m0.1,m0.2,hm,HP⟩;go_wp2
   go_ret
   exact⟨jT HY.symm,jA p0 e0⟩
  have g1:(k:Int)<(n:Int):=by omega
  obtain⟨b1,f1,an,cn,ea,s0,t0⟩:=jQn (KR.below e0) hlt;cases ea;have R1:H (wr.rangeAt gs (0+k*5) [Ao Ar (N k).i,Ao Ar (N k).f,V an (N k).n cn,(k:Int),f]):=s0;rw[Bt] at R1;obtain⟨w3,o0⟩:=nmH (wr.alloc (J #[Ao Ar (N k).i,Ao Ar (N k).f,V an (N k).n cn,(k:Int),f] 124));have b3:=bl1 o0;have k0:H _:=jEw (N k).i (N k).f (k:Int) f an (N k).n cn (N k).S w3 (t0.below b3) (q0 k hlt).n (q0 k hlt).s;have v0:H (Ab w2 w2 w3):=jA e0 b3;obtain⟨y0,h0⟩:=nnH ((decide ((k:Int)=(N k).i/\f=(N k).f)&&ndB (N k).i (N k).f (N k).n (N k).S));rw[h0.out] at k0;clear s0 t0 b3 e0;go_wp2_with (refine Bv rfl 124 _ rfl gs (k*5) rfl [Ao Ar (N k).i,Ao Ar (N k).f,V an (N k).n cn,(k:Int),f] _ ?_ Fd rfl Tryz.infoSe ?_;exact R1)
  rw[<-o0.out];refine CM k0.out fun w4 b4=>?_
  have KB4:H (Ab w2 w2 w4):=jA v0 b4;clear b4 R1 k0;cases y0 with
  | false=>
   have HN:H (ntB f n N zs m=Av):=xP fun h=>by
    have hh:=h.2.2.2.2.2 k hlt;have:=h0.out
    rw[Bf ⟨hh.1.symm,hh.2.1.symm⟩,jAe hh.2.2] at this;cases this
   go_wp2
   go_ret
   exact⟨jT HN.symm,jA p0 KB4⟩
  | true=>
   have HP2:H (∀ i,i<k+1->(N i).i=(i:Int)/\(N i).f=f/\NdP (N i).i (N i).f (N i).n (N i).S):=fun i hi=>by
    by_cases ei:i=k
    .subst ei;have:=h0.out
     rw[Cs,Ed] at this;refine⟨this.1.1.symm,this.1.2.symm,?_⟩;exact Classical.byContradiction fun hc=>by rw[xY hc] at this;cases this.2
    .exact HP i (by omega)
   go_wp2
   go_roundw
   case rel=>exact⟨k+1,by omega,by go_num,HP2,KB4.out⟩
   case measure=>simp[intOf];omega
def g7 (x1 b2 b3 bh bm be bd bo:Bool):Bool:=x1&&b2&&b3&&(bh==bm)&&(!be || bh)&&(!bo || bd)
def g9 (bd bo:Bool) (e1 r1 r2:Bool):Bool:=!((!bd&&(e1 || r1)) || (!bo&&r2))
theorem jIk {id f:Int} {s:Sl} (h7:g7 (decide (s.r.size=16)) (JI f s.ze) (JI f s.zr) s.h (vU s.r id f s.p.r s.p.k s.p.n s.p.i s.p.b s.p.m s.p.S) s.e s.d s.o=Aw) (h9:g9 s.d s.o (decide (2*f+1<=(s.ze.length:Int))) (decide (f+1<=(s.zr.length:Int))) (decide (2*f+1<=(s.zr.length:Int)))=Aw):zC id f s:=by
 unfold g7 at h7;unfold g9 at h9;simp only[Cs,Em,Bool.not_eq_true',Ed,He,Bool.or_eq_false_iff,Bool.and_eq_false_iff,Bool.not_eq_false',decide_eq_false_iff_not] at h7 h9;obtain⟨⟨⟨⟨⟨a1,a2⟩,a3⟩,a4⟩,a5⟩,a6⟩:=h7;obtain⟨c1,c2⟩:=h9;refine⟨a1,a2,a3,fun h=>?_,fun h=>?_,fun h=>?_,fun h=>?_,a4⟩
 .rcases a5 with a5|a5
  .rw[h] at a5;cases a5
  .exact a5
 .rcases a6 with a6|a6
  .rw[h] at a6;cases a6
  .exact a6
 .rcases c1 with c1|c1
  .exact c1
  .unfold stI at h;obtain⟨d1,d2⟩:=c1;rw[A5 (by omega),A5 d1,A5 d2] at h;omega
 .rcases c2 with c2|c2
  .exact c2
  .unfold stI at h;rw[A5 c2] at h;split at h
   .omega
   .split at h <;> omega
theorem jA0 {id f:Int} {s:Sl} (h:zC id f s):g7 (decide (s.r.size=16)) (JI f s.ze) (JI f s.zr) s.h (vU s.r id f s.p.r s.p.k s.p.n s.p.i s.p.b s.p.m s.p.S) s.e s.d s.o=Aw/\g9 s.d s.o (decide (2*f+1<=(s.ze.length:Int))) (decide (f+1<=(s.zr.length:Int))) (decide (2*f+1<=(s.zr.length:Int)))=Aw:=by
 obtain⟨a1,a2,a3,a4,a5,a6,a7,a8⟩:=h;unfold g7 g9;simp only[Cs,Em,Bool.not_eq_true',Ed,He,Bool.or_eq_false_iff,Bool.and_eq_false_iff,Bool.not_eq_false',decide_eq_false_iff_not];refine⟨⟨⟨⟨⟨⟨a1,a2⟩,a3⟩,a8⟩,?_⟩,?_⟩,?_,?_⟩
 .cases e:s.e with
  | false=>exact .inl rfl
  | true=>exact .inr (a4 e)
 .cases e:s.o with
  | false=>exact .inl rfl
  | true=>exact .inr (a5 e)
 .cases e:s.d with
  | true=>exact .inl rfl
  | false=>
   have n1:¬ 1<=stI f s.ze.length s.zr.length:=fun h=>by rw[a6 h] at e;cases e
   unfold stI at n1;refine .inr ⟨fun h=>n1 ?_,fun h=>n1 ?_⟩ <;> (repeat' split) <;> omega
 .cases e:s.o with
  | true=>exact .inl rfl
  | false=>
   have n1:¬ 2<=stI f s.ze.length s.zr.length:=fun h=>by rw[a7 h] at e;cases e
   unfold stI at n1;exact .inr fun h=>n1 (by rw[A6 h];omega)
theorem QE (id f:Int) (a:OA) (n cap:Nat) (S:Nat->Sl) (w:Ad) (h:Rd w (qH n S) (V a n cap)) (hn:n<=1048576) (hs:∀ i,i<n->SlN (S i)):CB 14 #[ndV id f (V a n cap)] w (ndB id f n S):=by
 obtain⟨A,HA⟩:=nmH w.1.size;obtain⟨w0,k0⟩:=nmH (w.alloc (J #[id,f,V a n cap] 26));have HR:=jZ k0 HA;have b0:=bl1 k0;have h0:H (Ab w w w0):=b0;have KH:H (Rd w0 (qH n S) (V a n cap)):=h.below b0;have KN:H (∀ i,i<n->SlN (S i)):=hs;obtain⟨x0,x1,x2⟩:=HR.c3 0 1 2;simp at x0 x1 x2;clear h b0 hs;by_cases hf:1<=f/\f<=3
 case neg=>
  have i1:inB f 1 3=Av:=Bg hf;rw[xY (fun h=>hf (ZG h.1))];go_enter func14,ntmps14
  go_wp2_with fail
  rw[<-k0.out,<-HA.out];go_quiet ((go_at_call 43;exact Ce (jN _ _ _ _)))
  go_wp2
  go_ret
  exact⟨rfl,Cz h0 _⟩
 have i1:inB f 1 3=Aw:=Bf hf;have HF:H (1<=f/\f<=3):=hf;have KA:H (∀ W,CS 50 #[f] W (3*f+1:Int)):=fun W=>vR f W hf
 obtain⟨m,HM⟩:∃ m:Int,H (3*f+1=m):=⟨_,rfl⟩;rw[HM.out] at KA;have em:IntKind.i64.wrap (m-1)=3*f:=by have:=HM.out;rw[A8];omega
 obtain⟨m1,a1⟩:∃ m1:Int,H (3*f=m1):=⟨_,rfl⟩;rw[a1.out] at em;have a3:IntKind.i64.wrap (2*f)=2*f:=by rw[A8];omega
 obtain⟨x,HX⟩:∃ x:Int,H (2*f+1=x):=⟨_,rfl⟩;have g3:IntKind.i64.wrap (2*f+1)=x:=by have:=HX.out;rw[A8];omega
 obtain⟨y,HY⟩:∃ y:Int,H (f+1=y):=⟨_,rfl⟩;have v2:IntKind.i64.wrap (f+1)=y:=by have:=HY.out;rw[A8];omega
 clear hf;cases hse:seB id f with
 | false=>
  have i2:inB id 0 m1=Av:=by
   have:=a1.out
   have:=HF.out
   have:=Ga hse
   unfold inB;exact Bg (by omega)
  rw[xY (fun h=>by have:=h.1;rw[hse] at this;cases this)];go_enter func14,ntmps14
  go_wp2_with fail
  rw[<-k0.out,<-HA.out];go_quiet (first|(go_at_call 50;exact Ce (KA _))|(go_at_call 43;exact Ce (jN _ _ _ _)))
  go_wp2
  go_ret
  exact⟨rfl,Cz h0 _⟩
 | true=>
 have i2:inB id 0 m1=Aw:=by
  have:=a1.out
  have:=HF.out
  have:=Dn hse
  unfold inB;exact Bf (by omega)
 have g2:H (seB id f=Aw):=hse;clear hse;by_cases h40:n<=40
 case neg=>
  rw[xY (fun h=>h40 h.2.1)];have e1:(n:Int)>40:=by omega
  go_enter func14,ntmps14
  go_wp2_with fail
  rw[<-k0.out,<-HA.out];go_quiet (first|(go_at_call 50;exact Ce (KA _))|(go_at_call 43;exact Ce (jN _ _ _ _)))
  go_wp2
  go_ret
  exact⟨rfl,Cz h0 _⟩
 have e1:¬ (n:Int)>40:=by omega
 go_enter func14,ntmps14
 go_wp2_with fail
 rw[<-k0.out,<-HA.out];go_quiet (first|(go_at_call 50;exact Ce (KA _))|(go_at_call 43;exact Ce (jN _ _ _ _)))
 go_wp2_with fail
 clear i1 i2 em KA HM a1 e1;go_loopw [3] (fun vi wr=>∃ k:Nat,k<=n/\vi=Ao Ar (k:Int)/\H (∀ i,i<k->zC id f (S i)/\∀ j,j<i->(S j).r≠(S i).r)/\Ab w0 w0 wr) (fun vi _=>n-(intOf vi).toNat)
 case atStart=>exact⟨0,Bi _,rfl,fun i hi=>Bo hi (Bk _),Cz (Az _ _) _⟩
 case round=>
  obtain⟨k,hk,rfl,HP,f0⟩:=hrel;have lA:=(HR.below f0 HR.lt).lt;replace x0:=(f0.cell (p:=A) HR.lt).trans x0
  replace x1:=(f0.cell (p:=Q A 1 I) HR.lt).trans x1
  replace x2:=(f0.cell (p:=Q A 2 I) HR.lt).trans x2
  by_cases hlt:k<n
  case neg=>
   obtain rfl:k=n:=by omega
   have HY:H (ndB id f k S=Aw):=jAe ⟨g2,h40,HP⟩;go_wp2
   go_ret
   exact⟨jT HY.symm,jA h0 f0⟩
  have l3:(k:Int)<(n:Int):=by omega
  obtain⟨b1,f1,p6,p0,q0,q6,s0,t0,rfl,R1,t6,e2,f2⟩:=QG (KH.below f0) hlt;have R1:H _:=R1;obtain⟨B2,s1⟩:=nmH wr.1.size;obtain⟨w2,p1⟩:=nmH (wr.alloc (J (slC (S k) (V p6 (S k).p.m q6) (V p0 (S k).ze.length s0) (V q0 (S k).zr.length t0)) 42));have b2:=bl1 p1;have o0:=jZ p1 s1;have u1:H (Ab w0 w0 w2):=jA f0 b2;obtain⟨c1,u0⟩:=nnH (decide ((S k).r.size=16));obtain⟨c2,g1⟩:=nnH (JI f (S k).ze);obtain⟨c3,j1⟩:=nnH (JI f (S k).zr);obtain⟨cm,o1⟩:=nnH (vU (S k).r id f (S k).p.r (S k).p.k (S k).p.n (S k).p.i (S k).p.b (S k).p.m (S k).p.S);obtain⟨ch,n1⟩:=nnH ((S k).h);obtain⟨ce,k1⟩:=nnH ((S k).e);obtain⟨cd,i0⟩:=nnH ((S k).d);obtain⟨co,j0⟩:=nnH ((S k).o);have N1:∀ d os,Ak prog 60 #[V p0 (S k).ze.length s0,f] (grow (redrawn w2 d) os) fun e w'=>e=Ae c2/\∃ p:Regrown,w'=grow (redrawn w2 p.d) p.os:=fun d os=>Calls.regrown_of (by have:=jAn f p0 _ s0 (S k).ze (grow (redrawn w2 d) os) ((e2.below b2).below (below_regrown w2 d os)) HF (KN k hlt).ne;rw[g1.out] at this;exact this)
  have N2:∀ d os,Ak prog 60 #[V q0 (S k).zr.length t0,f] (grow (redrawn w2 d) os) fun e w'=>e=Ae c3/\∃ p:Regrown,w'=grow (redrawn w2 p.d) p.os:=fun d os=>Calls.regrown_of (by have:=jAn f q0 _ t0 (S k).zr (grow (redrawn w2 d) os) ((f2.below b2).below (below_regrown w2 d os)) HF (KN k hlt).nr;rw[j1.out] at this;exact this)
  have e0:∀ d os,Ak prog 51 #[pcV (S k).p.r (S k).p.k (S k).p.n (S k).p.i (S k).p.b (V p6 (S k).p.m q6),Ag (S k).r,id,f] (grow (redrawn w2 d) os) fun e w'=>e=Ae cm/\∃ p:Regrown,w'=grow (redrawn w2 p.d) p.os:=fun d os=>Calls.regrown_of (by have:=jDv (S k).r id f (S k).p.r (S k).p.k (S k).p.n (S k).p.i (S k).p.b p6 (S k).p.m q6 (S k).p.S (grow (redrawn w2 d) os) ((t6.below b2).below (below_regrown w2 d os)) HF (KN k hlt).m (KN k hlt).tx;rw[o1.out] at this;exact this)
  have HLT:H (k<n):=hlt;have v1:H _:=N1;have w1:H _:=N2;have a2:H _:=e0;clear N1 N2 e0 t6 e2 f2 b2 f0;go_wp2_with (refine Bv rfl 42 _ rfl b1 (f1+k*13) rfl (slL (S k) (V p6 (S k).p.m q6) (V p0 (S k).ze.length s0) (V q0 (S k).zr.length t0)) _ ?_ C5 rfl Tryz.infoSl ?_;exact R1)
  rw[<-p1.out,<-s1.out];have RA:=HR.below u1 HR.lt;obtain⟨y0,y1,y2⟩:=RA.c3 0 1 2;obtain⟨z0,z1,z2,z3,z4,z5⟩:=o0.c6 0 1 2 3 4 5;obtain⟨z6,z7,z8,z9,g0,m0⟩:=o0.c6 6 7 8 9 10 11;have n0:=o0.cell 12;simp at y0 y1 y2 z0 z1 z2 z3 z4 z5 z6 z7 z8 z9 g0 m0 n0;rw[n1.out] at z7;rw[k1.out] at z8;rw[i0.out] at z9;rw[j0.out] at g0;clear RA R1 x0 x1 x2;go_cut [89] from 26 to 140 (fun v wx=>H (v=.bool (!g7 c1 c2 c3 ch cm ce cd co)/\Ab w2 w2 wx))
  case first=>
   have Y0:∀ d os,(grow (redrawn w2 d) os).cell? (Q A 0 I)=_:=fun d os=>cell_regrown y0 d os
   have Y1:∀ d os,(grow (redrawn w2 d) os).cell? (Q A 1 I)=_:=fun d os=>cell_regrown y1 d os
   have Z0:∀ d os,(grow (redrawn w2 d) os).cell? (Q B2 0 I)=_:=fun d os=>cell_regrown z0 d os
   have Z1:∀ d os,(grow (redrawn w2 d) os).cell? (Q B2 1 I)=_:=fun d os=>cell_regrown z1 d os
   have Z2:∀ d os,(grow (redrawn w2 d) os).cell? (Q B2 2 I)=_:=fun d os=>cell_regrown z2 d os
   have Z3:∀ d os,(grow (redrawn w2 d) os).cell? (Q B2 3 I)=_:=fun d os=>cell_regrown z3 d os
   have Z4:∀ d os,(grow (redrawn w2 d) os).cell? (Q B2 4 I)=_:=fun d os=>cell_regrown z4 d os
   have Z5:∀ d os,(grow (redrawn w2 d) os).cell? (Q B2 5 I)=_:=fun d os=>cell_regrown z5 d os
   have Z6:∀ d os,(grow (redrawn w2 d) os).cell? (Q B2 6 I)=_:=fun d os=>cell_regrown z6 d os
   have Z7:∀ d os,(grow (redrawn w2 d) os).cell? (Q B2 7 I)=_:=fun d os=>cell_regrown z7 d os
   have Z8:∀ d os,(grow (redrawn w2 d) os).cell? (Q B2 8 I)=_:=fun d os=>cell_regrown z8 d os
   have Z9:∀ d os,(grow (redrawn w2 d) os).cell? (Q B2 9 I)=_:=fun d os=>cell_regrown z9 d os
   have p2:∀ d os,(grow (redrawn w2 d) os).cell? (Q B2 10 I)=_:=fun d os=>cell_regrown g0 d os
   have q2:∀ d os,(grow (redrawn w2 d) os).cell? (Q B2 11 I)=_:=fun d os=>cell_regrown m0 d os
   have s2:∀ d os,(grow (redrawn w2 d) os).cell? (Q B2 12 I)=_:=fun d os=>cell_regrown n0 d os
   have N1:=v1.out;have N2:=w1.out;have e0:=a2.out;clear y0 y1 y2 z0 z1 z2 z3 z4 z5 z6 z7 z8 z9 g0 m0 n0;cases c1 with
   | false=>
    have n2:(((S k).r.size:Int) !=16)=Aw:=by have:=Ga u0;simp;omega
    refine wp_region_quiet_below (by kernel_rfl) (by kernel_rfl) ?_;repeat (go_big_quiet_step (first|(with_reducible exact N1 _ _)|(with_reducible exact N2 _ _)|(with_reducible exact e0 _ _)))
    refine Ct ?_;intro _ c0;obtain⟨⟨dq,d0⟩,a0⟩:=c0;subst a0;go_wp2_with fail
    go_meet
    exact⟨rfl,below_regrown w2 dq d0⟩
   | true=>
   have n2:(((S k).r.size:Int) !=16)=Av:=by have:=Dn u0;simp;omega
   cases c2 with
   | false=>
    refine wp_region_quiet_below (by kernel_rfl) (by kernel_rfl) ?_;repeat (go_big_quiet_step (first|(with_reducible exact N1 _ _)|(with_reducible exact N2 _ _)|(with_reducible exact e0 _ _)))
    refine Ct ?_;intro _ c0;obtain⟨⟨dq,d0⟩,a0⟩:=c0;subst a0;go_wp2_with fail
    go_meet
    exact⟨rfl,below_regrown w2 dq d0⟩
   | true=>
   cases c3 with
   | false=>
    refine wp_region_quiet_below (by kernel_rfl) (by kernel_rfl) ?_;repeat (go_big_quiet_step (first|(with_reducible exact N1 _ _)|(with_reducible exact N2 _ _)|(with_reducible exact e0 _ _)))
    refine Ct ?_;intro _ c0;obtain⟨⟨dq,d0⟩,a0⟩:=c0;subst a0;go_wp2_with fail
    go_meet
    exact⟨rfl,below_regrown w2 dq d0⟩
   | true=>
   cases ch with
   | false=>
    cases cm with
    | true=>
     refine wp_region_quiet_below (by kernel_rfl) (by kernel_rfl) ?_;repeat (go_big_quiet_step (first|(with_reducible exact N1 _ _)|(with_reducible exact N2 _ _)|(with_reducible exact e0 _ _)))
     refine Ct ?_;intro _ c0;obtain⟨⟨dq,d0⟩,a0⟩:=c0;subst a0;go_wp2_with fail
     go_meet
     exact⟨D8 Value.bool (by simp[g7]),below_regrown w2 dq d0⟩
    | false=>
     cases ce with
     | true=>
      refine wp_region_quiet_below (by kernel_rfl) (by kernel_rfl) ?_;repeat (go_big_quiet_step (first|(with_reducible exact N1 _ _)|(with_reducible exact N2 _ _)|(with_reducible exact e0 _ _)))
      refine Ct ?_;intro _ c0;obtain⟨⟨dq,d0⟩,a0⟩:=c0;subst a0;go_wp2_with fail
      go_meet
      exact⟨D8 Value.bool (by simp[g7]),below_regrown w2 dq d0⟩
     | false=>
      cases co with
      | false=>
       refine wp_region_quiet_below (by kernel_rfl) (by kernel_rfl) ?_;repeat (go_big_quiet_step (first|(with_reducible exact N1 _ _)|(with_reducible exact N2 _ _)|(with_reducible exact e0 _ _)))
       refine Ct ?_;intro _ c0;obtain⟨⟨dq,d0⟩,a0⟩:=c0;subst a0;go_wp2_with fail
       go_meet
       exact⟨D8 Value.bool (by simp[g7]),below_regrown w2 dq d0⟩
      | true=>
       refine wp_region_quiet_below (by kernel_rfl) (by kernel_rfl) ?_;repeat (go_big_quiet_step (first|(with_reducible exact N1 _ _)|(with_reducible exact N2 _ _)|(with_reducible exact e0 _ _)))
       refine Ct ?_;intro _ c0;obtain⟨⟨dq,d0⟩,a0⟩:=c0;subst a0;go_wp2_with fail
       go_meet
       exact⟨D8 Value.bool (by simp[g7]),below_regrown w2 dq d0⟩
   | true=>
    cases cm with
    | false=>
     refine wp_region_quiet_below (by kernel_rfl) (by kernel_rfl) ?_;repeat (go_big_quiet_step (first|(with_reducible exact N1 _ _)|(with_reducible exact N2 _ _)|(with_reducible exact e0 _ _)))
     refine Ct ?_;intro _ c0;obtain⟨⟨dq,d0⟩,a0⟩:=c0;subst a0;go_wp2_with fail
     go_meet
     exact⟨D8 Value.bool (by simp[g7]),below_regrown w2 dq d0⟩
    | true=>
     cases ce with
     | false=>
      cases co with
      | false=>
       refine wp_region_quiet_below (by kernel_rfl) (by kernel_rfl) ?_;repeat (go_big_quiet_step (first|(with_reducible exact N1 _ _)|(with_reducible exact N2 _ _)|(with_reducible exact e0 _ _)))
       refine Ct ?_;intro _ c0;obtain⟨⟨dq,d0⟩,a0⟩:=c0;subst a0;go_wp2_with fail
       go_meet
       exact⟨D8 Value.bool (by simp[g7]),below_regrown w2 dq d0⟩
      | true=>
       refine wp_region_quiet_below (by kernel_rfl) (by kernel_rfl) ?_;repeat (go_big_quiet_step (first|(with_reducible exact N1 _ _)|(with_reducible exact N2 _ _)|(with_reducible exact e0 _ _)))
       refine Ct ?_;intro _ c0;obtain⟨⟨dq,d0⟩,a0⟩:=c0;subst a0;go_wp2_with fail
       go_meet
       exact⟨D8 Value.bool (by simp[g7]),below_regrown w2 dq d0⟩
     | true=>
      cases co with
      | false=>
       refine wp_region_quiet_below (by kernel_rfl) (by kernel_rfl) ?_;repeat (go_big_quiet_step (first|(with_reducible exact N1 _ _)|(with_reducible exact N2 _ _)|(with_reducible exact e0 _ _)))
       refine Ct ?_;intro _ c0;obtain⟨⟨dq,d0⟩,a0⟩:=c0;subst a0;go_wp2_with fail
       go_meet
       exact⟨D8 Value.bool (by simp[g7]),below_regrown w2 dq d0⟩
      | true=>
       refine wp_region_quiet_below (by kernel_rfl) (by kernel_rfl) ?_;repeat (go_big_quiet_step (first|(with_reducible exact N1 _ _)|(with_reducible exact N2 _ _)|(with_reducible exact e0 _ _)))
       refine Ct ?_;intro _ c0;obtain⟨⟨dq,d0⟩,a0⟩:=c0;subst a0;go_wp2_with fail
       go_meet
       exact⟨D8 Value.bool (by simp[g7]),below_regrown w2 dq d0⟩
  obtain⟨rfl,q1⟩:=hcut.out;clear hcut v1 w1 a2;have KB3:H (Ab w0 w0 wc):=jA u1 q1;have RA:=HR.below KB3 HR.lt;have RB:=o0.below q1 o0.lt;have o2:H (Row wc B2 42 (slC (S k) (V p6 (S k).p.m q6) (V p0 (S k).ze.length s0) (V q0 (S k).zr.length t0))):=RB;replace y0:=RA.cell 0
  replace y1:=RA.cell 1
  replace y2:=RA.cell 2
  replace z0:=RB.cell 0
  replace z1:=RB.cell 1
  replace z2:=RB.cell 2
  replace z3:=RB.cell 3
  replace z4:=RB.cell 4
  replace z5:=RB.cell 5
  replace z6:=RB.cell 6
  replace z7:=RB.cell 7
  replace z8:=RB.cell 8
  replace z9:=RB.cell 9
  replace g0:=RB.cell 10
  replace m0:=RB.cell 11
  replace n0:=RB.cell 12
  simp at y0 y1 y2 z0 z1 z2 z3 z4 z5 z6 z7 z8 z9 g0 m0 n0;rw[i0.out] at z9;rw[j0.out] at g0;clear RA RB q1;cases hg7:g7 c1 c2 c3 ch cm ce cd co with
  | false=>
   have HN:H (ndB id f n S=Av):=xY fun h=>by
    have:=(jA0 (h.2.2 k HLT).1).1
    rw[u0.out,g1.out,j1.out,n1.out,o1.out,k1.out,i0.out,j0.out,hg7] at this;cases this
   go_wp2
   go_ret
   exact⟨jT HN.symm,jA h0 KB3⟩
  | true=>
  have t1:H (g7 c1 c2 c3 ch cm ce cd co=Aw):=hg7;clear hg7;go_upto_region 9 with fail
  go_cut [126] from 26 to 140 (fun v wx=>H (v=.bool (!g9 cd co (decide (x<=((S k).ze.length:Int))) (decide (y<=((S k).zr.length:Int))) (decide (x<=((S k).zr.length:Int))))/\wx=wc))
  case first=>
   cases cd with
   | true=>
    cases co with
    | true=>
     go_wp2
     go_meet
     exact⟨D8 Value.bool (by simp[g9]),rfl⟩
    | false=>
     by_cases r2:x<=((S k).zr.length:Int)
     .go_wp2
      go_meet
      exact⟨D8 Value.bool (by simp[g9,r2]),rfl⟩
     .go_wp2
      go_meet
      exact⟨D8 Value.bool (by simp[g9,r2]),rfl⟩
   | false=>
    by_cases r0:x<=((S k).ze.length:Int)
    .go_wp2
     go_meet
     exact⟨D8 Value.bool (by simp[g9,r0]),rfl⟩
    by_cases r1:y<=((S k).zr.length:Int)
    .go_wp2
     go_meet
     exact⟨D8 Value.bool (by simp[g9,r1]),rfl⟩
    cases co with
    | true=>
     go_wp2
     go_meet
     exact⟨D8 Value.bool (by simp[g9,r0,r1]),rfl⟩
    | false=>
     by_cases r2:x<=((S k).zr.length:Int)
     .go_wp2
      go_meet
      exact⟨D8 Value.bool (by simp[g9,r2]),rfl⟩
     .go_wp2
      go_meet
      exact⟨D8 Value.bool (by simp[g9,r0,r1,r2]),rfl⟩
  obtain⟨rfl,m2⟩:=hcut.out;clear hcut;subst m2;cases hg9:g9 cd co (decide (x<=((S k).ze.length:Int))) (decide (y<=((S k).zr.length:Int))) (decide (x<=((S k).zr.length:Int))) with
  | false=>
   have HN:H (ndB id f n S=Av):=xY fun h=>by
    have:=(jA0 (h.2.2 k HLT).1).2
    rw[i0.out,j0.out,HX.out,HY.out,hg9] at this;cases this
   go_wp2
   go_ret
   exact⟨jT HN.symm,jA h0 KB3⟩
  | true=>
  have j2:H (zC id f (S k)):=jIk (by rw[u0.out,g1.out,j1.out,n1.out,o1.out,k1.out,i0.out,j0.out];exact t1) (by rw[i0.out,j0.out,HX.out,HY.out];exact hg9);have k2:H (Rd wc (qH n S) (V (Q b1 f1 I) n cap)):=KH.below KB3;clear hg9 t1 z1 z2 z3 z4 z5 z6 z7 z8 z9 g0 m0 n0;go_wp2_with fail
  go_loopw [5] (fun vi wr=>∃ j:Nat,j<=k/\vi=Ao Ar (j:Int)/\H (∀ i,i<j->(S i).r≠(S k).r)/\Ab wc wc wr) (fun vi _=>k-(intOf vi).toNat)
  case atStart=>exact⟨0,Bi _,rfl,fun i hi=>Bo hi (Bk _),Az _ _⟩
  case round=>
   obtain⟨j,hj,rfl,HJ,hbj⟩:=hrel;replace y2:=(hbj.cell (p:=Q A 2 I) (A7 y2)).trans y2
   replace z0:=(hbj.cell (p:=B2) (A7 z0)).trans z0
   by_cases hjk:j<k
   .have j3:(j:Int)<(k:Int):=by omega
    have k3:(j:Int)<(n:Int):=by omega
    obtain⟨b3,f3,g6,h3,i3,d6,t2,u2,e3,R3,_,_,_⟩:=QG (k2.below hbj) (Nat.lt_trans hjk HLT);cases e3;have v0:wr.cell? (Q b1 (f1+j*13) I)=M (Ag (S j).r):=by
     have:=R3 0 (Ag (S j).r) rfl
     simpa using this
    have KBj:H (Ab wc wc wr):=hbj;clear R3 hbj;by_cases hr:(S j).r=(S k).r
    .have HN:H (ndB id f n S=Av):=xY fun h=>(h.2.2 k HLT).2 j hjk hr
     rw[hr] at v0;have hb:=vD (S k).r;clear hr;go_wp2_with fail
     go_quiet (fail)
     go_wp2
     go_ret
     exact⟨jT HN.symm,Cz (jA h0 (jA KB3 KBj)) _⟩
    .have HJ2:H (∀ i,i<j+1->(S i).r≠(S k).r):=fun i hi=>by
      by_cases e:i=j
      .subst e;exact hr
      .exact HJ i (by omega)
     have hb:=jEl hr;clear hr;go_wp2_with fail
     go_quiet (fail)
     go_wp2_with fail
     go_roundw
     case rel=>exact⟨j+1,by omega,by go_num,HJ2,Cz KBj.out _⟩
     case measure=>simp[intOf];omega
   .obtain rfl:j=k:=by omega
    have HP2:H (∀ i,i<j+1->zC id f (S i)/\∀ l,l<i->(S l).r≠(S i).r):=fun i hi=>by
     by_cases e:i=j
     .subst e;exact⟨j2.out,HJ.out⟩
     .exact HP i (by omega)
    go_wp2_with fail
    go_roundw
    case rel=>exact⟨j+1,by have:=HLT.out;omega,by go_num,HP2,jA KB3.out hbj⟩
    case measure=>have:=HLT.out;simp[intOf];omega
theorem jA9 (f:Int) (a:OA) (n c:Nat) (l:OA) (zs:List Int) (d:Nat) (e:OA) (m g:Nat) (N:Nat->Nd) (w:Ad) (h1:Rd w (qR n N) (V a n c)) (h2:jH w l zs.length zs) (hn:n<=1048576) (hz:zs.length<=1048576) (hN:∀ i,i<n->NdN (N i)):CB 22 #[Ai #[f,V a n c,V l zs.length d,V e m g]] w (ntB f n N zs m):=by
 obtain⟨A,HA⟩:=nmH w.1.size;obtain⟨w0,e0⟩:=nmH (w.alloc (J #[f,V a n c,V l zs.length d,V e m g] 48));have RA:=jZ e0 HA;have h0:=bl1 e0;have f0:H (Ab w w w0):=h0;have KH:H (Rd w0 (qR n N) (V a n c)):=h1.below h0;have n0:H (∀ i,i<n->NdN (N i)):=hN;obtain⟨x0,x1,x2,x3⟩:=RA.c4 0 1 2 3;simp at x0 x1 x2 x3;have X0:∀ d os,(grow (redrawn w0 d) os).cell? (Q A 0 I)=_:=fun d os=>cell_regrown x0 d os
 have X1:∀ d os,(grow (redrawn w0 d) os).cell? (Q A 1 I)=_:=fun d os=>cell_regrown x1 d os
 have X2:∀ d os,(grow (redrawn w0 d) os).cell? (Q A 2 I)=_:=fun d os=>cell_regrown x2 d os
 have X3:∀ d os,(grow (redrawn w0 d) os).cell? (Q A 3 I)=_:=fun d os=>cell_regrown x3 d os
 have N1:∀ d os,Ak prog 43 #[f,(1:Int),(3:Int)] (grow (redrawn w0 d) os) fun e w'=>e=Ae (inB f 1 3)/\∃ p:Regrown,w'=grow (redrawn w0 p.d) p.os:=fun d os=>Calls.regrown_of ((jN f 1 3 _).mono fun e w' h=>⟨h.1,by rw[h.2];exact Az _ _⟩)
 by_cases hf:1<=f/\f<=3
 case neg=>
  have e1:inB f 1 3=Av:=Bg hf;rw[e1] at N1;have N2:=N1;have N3:=N1;rw[xP (fun h=>hf h.1)];go_enter func22,ntmps22
  go_wp2_with fail
  rw[<-e0.out,<-HA.out];refine wp_region_quiet_below (by kernel_rfl) (by kernel_rfl) ?_;repeat (go_big_quiet_step (first|(with_reducible exact N1 _ _)|(with_reducible exact N2 _ _)|(with_reducible exact N3 _ _)))
  refine Ct ?_;intro _ c0;obtain⟨⟨dq,b0⟩,a0⟩:=c0;subst a0;go_wp2
  go_ret
  exact⟨rfl,jA f0 (below_regrown w0 dq b0)⟩
 have e1:inB f 1 3=Aw:=Bf hf;rw[e1] at N1;obtain⟨q,HQ⟩:∃ q:Int,H (3*f+1=q):=⟨_,rfl⟩;have N2:∀ d os,Ak prog 50 #[f] (grow (redrawn w0 d) os) fun e w'=>e=Ae q/\∃ p:Regrown,w'=grow (redrawn w0 p.d) p.os:=fun d os=>Calls.regrown_of ((vR f _ hf).mono fun e w' h=>⟨by rw[h.1,HQ.out],by rw[h.2];exact Az _ _⟩)
 obtain⟨b,i0⟩:=nnH (JI f zs);have N3:∀ d' os,Ak prog 60 #[V l zs.length d,f] (grow (redrawn w0 d') os) fun e w'=>e=Ae b/\∃ p:Regrown,w'=grow (redrawn w0 p.d) p.os:=fun d' os=>Calls.regrown_of (by have:=jAn f l zs.length d zs (grow (redrawn w0 d') os) ((h2.below h0).below (below_regrown w0 d' os)) hf hz;rw[i0.out] at this;exact this)
 have HF:H (1<=f/\f<=3):=hf;clear hf e1 h1 h2 hN h0;cases b with
 | false=>
  rw[xP (fun h=>by have:=i0.out;rw[h.2.2.2.1] at this;cases this)];go_enter func22,ntmps22
  go_wp2_with fail
  rw[<-e0.out,<-HA.out];refine wp_region_quiet_below (by kernel_rfl) (by kernel_rfl) ?_;repeat (go_big_quiet_step (first|(with_reducible exact N1 _ _)|(with_reducible exact N2 _ _)|(with_reducible exact N3 _ _)))
  refine Ct ?_;intro _ c0;obtain⟨⟨dq,b0⟩,a0⟩:=c0;subst a0;go_wp2
  go_ret
  exact⟨rfl,jA f0 (below_regrown w0 dq b0)⟩
 | true=>
 obtain⟨z,HZ⟩:=nnH zs.length;rw[HZ.out] at N3 e0 RA X2 x2;rw[HZ.out];by_cases hzl:(z:Int)<=f
 case neg=>
  have u0:decide (f<(z:Int))=Aw:=Bf (by omega);have v0:(z:Int)>f:=by omega
  rw[xP (fun h=>hzl (by have:=h.2.2.1;rw[HZ.out] at this;exact this))];go_enter func22,ntmps22
  go_wp2_with fail
  rw[<-e0.out,<-HA.out];refine wp_region_quiet_below (by kernel_rfl) (by kernel_rfl) ?_;repeat (go_big_quiet_step (first|(with_reducible exact N1 _ _)|(with_reducible exact N2 _ _)|(with_reducible exact N3 _ _)))
  refine Ct ?_;intro _ c0;obtain⟨⟨dq,b0⟩,a0⟩:=c0;subst a0;go_wp2
  go_ret
  exact⟨rfl,jA f0 (below_regrown w0 dq b0)⟩
 have u0:decide (f<(z:Int))=Av:=Bg (by omega);have v0:¬ (z:Int)>f:=by omega
 by_cases hq:(n:Int)=q
 case neg=>
  have s0:((n:Int) !=q)=Aw:=by simp[hq]
  rw[xP (fun h=>hq (h.2.1.trans HQ.out))];go_enter func22,ntmps22
  go_wp2_with fail
  rw[<-e0.out,<-HA.out];refine wp_region_quiet_below (by kernel_rfl) (by kernel_rfl) ?_;repeat (go_big_quiet_step (first|(with_reducible exact N1 _ _)|(with_reducible exact N2 _ _)|(with_reducible exact N3 _ _)))
  refine Ct ?_;intro _ c0;obtain⟨⟨dq,b0⟩,a0⟩:=c0;subst a0;go_wp2
  go_ret
  exact⟨rfl,jA f0 (below_regrown w0 dq b0)⟩
 have s0:((n:Int) !=q)=Av:=by simp[hq]
 by_cases hm:m<=3000
 case neg=>
  have q0:decide ((3000:Int)<(m:Int))=Aw:=Bf (by omega);have r0:(m:Int)>3000:=by omega
  rw[xP (fun h=>hm h.2.2.2.2.1)];go_enter func22,ntmps22
  go_wp2_with fail
  rw[<-e0.out,<-HA.out];refine wp_region_quiet_below (by kernel_rfl) (by kernel_rfl) ?_;repeat (go_big_quiet_step (first|(with_reducible exact N1 _ _)|(with_reducible exact N2 _ _)|(with_reducible exact N3 _ _)))
  refine Ct ?_;intro _ c0;obtain⟨⟨dq,b0⟩,a0⟩:=c0;subst a0;go_wp2
  go_ret
  exact⟨rfl,jA f0 (below_regrown w0 dq b0)⟩
 have q0:decide ((3000:Int)<(m:Int))=Av:=Bg (by omega);have r0:¬ (m:Int)>3000:=by omega
 have c1:H ((n:Int)=3*f+1):=hq.trans HQ.symm;have m0:H ((zs.length:Int)<=f/\JI f zs=Aw):=⟨by rw[HZ.out];exact hzl,i0⟩;go_enter func22,ntmps22
 go_wp2_with fail
 rw[<-e0.out,<-HA.out];refine wp_region_quiet_below (by kernel_rfl) (by kernel_rfl) ?_;repeat (go_big_quiet_step (first|(with_reducible exact N1 _ _)|(with_reducible exact N2 _ _)|(with_reducible exact N3 _ _)))
 refine Ct ?_;intro _ c0;obtain⟨⟨dq,b0⟩,a0⟩:=c0;subst a0;have KB1:H (Ab w0 w0 (grow (redrawn w0 dq) b0)):=below_regrown w0 dq b0;generalize grow (redrawn w0 dq) b0=w1 at *;clear X0 X1 X2 X3 N1 N2 N3 x0 x1 x2 x3 u0 v0 s0 q0 r0;go_wp2_with fail
 go_loopw [3] (fun vi wr=>∃ k:Nat,k<=n/\vi=Ao Ar (k:Int)/\H (∀ i,i<k->(N i).i=(i:Int)/\(N i).f=f/\NdP (N i).i (N i).f (N i).n (N i).S)/\Ab w0 w0 wr) (fun vi _=>n-(intOf vi).toNat)
 case atStart=>exact⟨0,Bi _,rfl,fun i hi=>Bo hi (Bk _),KB1⟩
 case round=>
  obtain⟨k,hk,rfl,HP,d0⟩:=hrel;have o0:=RA.below d0 RA.lt;obtain⟨x0,x1⟩:=o0.c2 0 1;simp at x0 x1;clear o0;by_cases hlt:k<n
  case neg=>
   obtain rfl:k=n:=by omega
   have HY:H (ntB f k N zs m=Aw):=jBx ⟨HF,c1,m0.1,m0.2,hm,HP⟩;go_wp2
   go_ret
   exact⟨jT HY.symm,jA f0 d0⟩
  have k1:(k:Int)<(n:Int):=by omega
  obtain⟨b1,f1,an,cn,rfl,⟨y0,y1,y2⟩,_,t0⟩:=zJ (KH.below d0) hlt;have X0:∀ d os,(grow (redrawn wr d) os).cell? (Q A 0 I)=_:=fun d os=>cell_regrown x0 d os
  have X1:∀ d os,(grow (redrawn wr d) os).cell? (Q A 1 I)=_:=fun d os=>cell_regrown x1 d os
  have Y0:∀ d os,(grow (redrawn wr d) os).cell? (Q b1 (f1+k*3) I)=_:=fun d os=>cell_regrown y0 d os
  have Y1:∀ d os,(grow (redrawn wr d) os).cell? (Q b1 (f1+k*3+1) I)=_:=fun d os=>cell_regrown y1 d os
  have Y2:∀ d os,(grow (redrawn wr d) os).cell? (Q b1 (f1+k*3+2) I)=_:=fun d os=>cell_regrown y2 d os
  obtain⟨o,HO⟩:=nnH (ndB (N k).i (N k).f (N k).n (N k).S);have N1:∀ d os,Ak prog 14 #[Ai #[Ao Ar (N k).i,Ao Ar (N k).f,V an (N k).n cn]] (grow (redrawn wr d) os) fun e w'=>e=Ae o/\∃ p:Regrown,w'=grow (redrawn wr p.d) p.os:=fun d os=>Calls.regrown_of (by have:=QE (N k).i (N k).f an (N k).n cn (N k).S (grow (redrawn wr d) os) (t0.below (below_regrown wr d os)) (n0 k hlt).n (n0 k hlt).s;rw[HO.out] at this;exact this)
  have N2:=N1;have N3:=N1;obtain⟨ki,k0⟩:=nnH ((N k).i);obtain⟨kf,j0⟩:=nnH ((N k).f);rw[k0.out] at Y0 N1 N2 N3;rw[j0.out] at Y1 N1 N2 N3;have g0:H (Ab w w wr/\Ab w0 w0 wr):=⟨jA f0 d0,d0⟩;have HLT:H (k<n):=hlt;clear t0 y0 y1 y2 d0;by_cases hi:ki=(k:Int)
  case neg=>
   have p0:(ki !=(k:Int))=Aw:=by simp[hi]
   have HN:H (ntB f n N zs m=Av):=xP fun h=>hi (by rw[<-k0.out];exact(h.2.2.2.2.2 k HLT).1)
   go_wp2_with fail
   refine wp_region_quiet_below (by kernel_rfl) (by kernel_rfl) ?_;repeat (go_big_quiet_step (first|(with_reducible exact N1 _ _)|(with_reducible exact N2 _ _)|(with_reducible exact N3 _ _)))
   refine Ct ?_;intro _ c0;obtain⟨⟨dq,b0⟩,a0⟩:=c0;subst a0;go_wp2
   go_ret
   exact⟨jT HN.symm,jA g0.1 (below_regrown wr dq b0)⟩
  have p0:(ki !=(k:Int))=Av:=by simp[hi]
  by_cases hff:kf=f
  case neg=>
   have g1:(kf !=f)=Aw:=by simp[hff]
   have HN:H (ntB f n N zs m=Av):=xP fun h=>hff (by rw[<-j0.out];exact(h.2.2.2.2.2 k HLT).2.1)
   go_wp2_with fail
   refine wp_region_quiet_below (by kernel_rfl) (by kernel_rfl) ?_;repeat (go_big_quiet_step (first|(with_reducible exact N1 _ _)|(with_reducible exact N2 _ _)|(with_reducible exact N3 _ _)))
   refine Ct ?_;intro _ c0;obtain⟨⟨dq,b0⟩,a0⟩:=c0;subst a0;go_wp2
   go_ret
   exact⟨jT HN.symm,jA g0.1 (below_regrown wr dq b0)⟩
  have a1:H (ki=(k:Int)):=hi;have z0:H (kf=f):=hff;rw[hi] at Y0 N1 N2 N3;rw[hff] at Y1 N1 N2 N3;have m1:((k:Int) !=(k:Int))=Av:=by simp
  have i1:(f !=f)=Av:=by simp
  clear hi hff p0;cases o with
  | false=>
   have HN:H (ntB f n N zs m=Av):=xP fun h=>by
    have:=HO.out
    rw[jAe (h.2.2.2.2.2 k HLT.out).2.2] at this;cases this
   go_wp2_with fail
   refine wp_region_quiet_below (by kernel_rfl) (by kernel_rfl) ?_;repeat (go_big_quiet_step (first|(with_reducible exact N1 _ _)|(with_reducible exact N2 _ _)|(with_reducible exact N3 _ _)))
   refine Ct ?_;intro _ c0;obtain⟨⟨dq,b0⟩,a0⟩:=c0;subst a0;go_wp2
   go_ret
   exact⟨jT HN.symm,jA g0.1 (below_regrown wr dq b0)⟩
  | true=>
   have HP2:H (∀ i,i<k+1->(N i).i=(i:Int)/\(N i).f=f/\NdP (N i).i (N i).f (N i).n (N i).S):=fun i j1=>by
    by_cases ei:i=k
    .subst ei;refine⟨k0.trans a1,j0.trans z0,?_⟩;exact Classical.byContradiction fun hc=>by have:=HO.out;rw[xY hc] at this;cases this
    .exact HP i (by omega)
   go_wp2_with fail
   refine wp_region_quiet_below (by kernel_rfl) (by kernel_rfl) ?_;repeat (go_big_quiet_step (first|(with_reducible exact N1 _ _)|(with_reducible exact N2 _ _)|(with_reducible exact N3 _ _)))
   refine Ct ?_;intro _ c0;obtain⟨⟨dq,b0⟩,a0⟩:=c0;subst a0;have KB4:H (Ab w0 w0 (grow (redrawn wr dq) b0)):=jA g0.2 (below_regrown wr dq b0);go_wp2
   go_roundw
   case rel=>exact⟨k+1,by have:=HLT.out;omega,by go_num,HP2,KB4.out⟩
   case measure=>have:=HLT.out;simp[intOf];omega
end
end Go.Proofs.YtcaejlalnjnifaaGreat
