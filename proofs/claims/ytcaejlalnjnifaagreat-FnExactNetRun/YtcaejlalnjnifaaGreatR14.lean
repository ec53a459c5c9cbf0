import Derived.Test.YtcaejlalnjnifaaGreatR12
import Derived.Test.YtcaejlalnjnifaaGreatR11
set_option maxHeartbeats 8000000
set_option maxRecDepth 2000
open Go.Value renaming slice->V,string->Ag,tuple->Ah,int->Ao,oneCell'->Aq
open Option renaming none->I,some->M
open Go.RowKit renaming Hid->H,Below->Ab
open Go.Addr renaming mk->Q
open Go.Obj renaming cells->J
open Go renaming World->Ad,Value->Aj,Calls->Ak,Addr->Al,maxLen->Au
open Go.Ending renaming returned->Ae
open ByteArray renaming empty->Ap
open Go.IntKind renaming i64->Ar
open Bool renaming false->Av,true->Aw
open Go.Proofs.Tryz
open Go.ChangeShapes Go.WideShapes Go.ChangeAt Go.RowKit
namespace Go.Proofs.YtcaejlalnjnifaaGreat
theorem jMa (f:Nat->Nat) (k:Nat):(eI f (k+1)).map (Ao .u8)=(eI f k).map (Ao .u8)++[Ao .u8 ((f k:Nat):Int)]:=by
 rw[jI9,Dw];rfl
theorem jMc (s:BA) (n x y:Nat) (hn:s.size=n) (hx:n / 256=x) (hy:n % 256=y):[Ao .u8 (x:Int),Ao .u8 (y:Int)]++(eI (tat s) n).map (Ao .u8)=(eI (frm s) (2+n)).map (Ao .u8):=by
 apply Co
 intro i;by_cases h:i<2+n
 .rw[Eb,jCx _ _ _ h];match i,h with
  | 0,_=>simp[frm,hn,hx]
  | 1,_=>simp[frm,hn,hy]
  | j+2,h=>
   have hj:j<n:=by omega
   rw[Ds (by simp)];simp[eI,hj,frm]
 .rw[Be (by simp[vA];omega),Be (by simp[vA];omega)]
theorem jHy {w:Ad} (s:BA) (cap:Nat) (fr:Nat×Nat):∀ j u,((eI (tat s) s.size).map (Ao .u8))[j]?=M u->(w.alloc (J (bytesRow s cap) 5 fr)).cell? (((Q w 0 I):Al).add j)=M u:=fun j u hu=>by
 have hj:j<s.size:=by
  by_cases hh:j<s.size
  .exact hh
  .rw[Be (by simp[vA];omega)] at hu;cases hu
 have ea:((Q w 0 I):Al).add j=(Q w j I):=by unfold Addr.add;split <;> simp_all
 rw[ea,World.cell?_alloc_mark,bytesRow_at s cap j hj,<-hu];rw[Eb,jCx _ _ _ hj];have:tat s j=s.data[j].toNat:=XZ s j hj
 simp[this]
theorem jR5 (f:Nat->Nat) (n:Nat):∀ u∈(eI f n).map (Ao .u8),u.oneCell'=Aw:=by
 intro u hu;simp at hu;obtain⟨y,_,rfl⟩:=hu;rfl
set_option maxRecDepth 100000 in
theorem jFe (s:BA) (k n:Int) (w:Ad) (hs:s.size<=1048576):Ak prog 127 #[Ag s,k,n] w fun e w'=>∃ v,e=Ae (Ah #[v,(vK s k n)])/\jCp w w' v (jBo s k n) (ZE s k.toNat)/\Ab w.1.size w w':=by
 obtain⟨i0,hi,v1,w1,x1⟩:=Cg Tryz.infoByte;obtain⟨i1,hj,p2,q2,r2⟩:=Cg Tryz.infoStr;obtain⟨sz,o0⟩:∃ sz,s.size=sz:=⟨_,rfl⟩;by_cases hs2:sz<=2000
 case neg=>
  have he:vK s k n=Av:=by unfold vK;simp;omega
  have hr:jBo s k n=0:=by unfold jBo;rw[A5 (by rw[he];simp)]
  rw[he,hr];have h1:(sz:Int)>2000:=by omega
  clear he hr;go_enter func127,ntmps127
  go_wp2
  go_ret2
  exact⟨_,rfl,⟨_,_,rfl,jIq _ _⟩,(Az _ _).alloc (Ay _) _⟩
 have t2:¬ (sz:Int)>2000:=by omega
 by_cases hok:qV k n=Aw
 case neg=>
  have s1:qV k n=Av:=by simpa using hok
  have he:vK s k n=Av:=by unfold vK;rw[s1];simp
  have hr:jBo s k n=0:=by unfold jBo;rw[A5 (by rw[he];simp)]
  rw[he,hr];clear he hr hok;go_enter func127,ntmps127
  go_wp2_with (go_at_call 155;refine(jB5 _ _ _).mono ?_;rintro e w' ⟨rfl,hw⟩;obtain rfl:=hw.symm)
  go_ret2
  exact⟨_,rfl,⟨_,_,rfl,jIq _ _⟩,(Az _ _).alloc (Ay _) _⟩
 obtain⟨h1,h2,h3⟩:=zM hok;obtain⟨K,rfl⟩:=Dk (show 0<=k by omega);obtain⟨M,rfl⟩:=Dk (show 0<=n by omega);have hR:jBe (K:Int) (M:Int)=M:=by unfold jBe;rw[A6 hok];simp
 have a2:H (∀ w,Ak prog 162 #[(K:Int),(M:Int)] w fun e w'=>∃ v,e=Ae (Ah #[v,Aw])/\jFv w w' v M K (Gm.sprd K)/\Ab w.1.size w w'):=fun w=>by
  have:=jFh (K:Int) (M:Int) w
  rw[hok,hR,Cy] at this;exact this
 have he:vK s (K:Int) (M:Int)=Aw:=by unfold vK;rw[hok];simp;omega
 have hr:jBo s (K:Int) (M:Int)=M:=by unfold jBo;rw[A6 he];simp
 rw[he,hr,Cy];have e0:1<=K:=by omega
 have f0:K<=16:=by omega
 have hB:=fun w=>jDu (sz:Int) (K:Int) w
 rw[jBk hs2 e0 f0] at hB;have n1:=jEn (s:=sz) e0;have m2:=jF2 (s:=sz) e0;have q0:=ZP (s:=sz) e0;have y0:H (ZE s K=bod K (Gm.sprd K) (pcs (frm s) (XE sz K)) (XE sz K)):=by show _=_;unfold ZE;rw[o0];unfold enc;rw[o0]
 obtain⟨l,hl⟩:∃ l,XE sz K=l:=⟨_,rfl⟩;rw[hl] at hB n1 m2 q0 y0;obtain⟨NN,g0⟩:∃ NN,K*l=NN:=⟨_,rfl⟩;have a3:NN<=100000:=by rw[<-g0];exact By (Nat.mul_le_mul f0 q0) (by omega)
 rw[g0] at n1;have hm:(K:Int)*(l:Int)=(NN:Int):=by rw[<-g0,Int.natCast_mul]
 have n3:IntKind.i64.wrap ((K:Int)*(l:Int))=(NN:Int):=by rw[hm,A8];omega
 have z1:H (NN=K*l):=g0.symm;have f2:∀ q,frm s q<256:=fun q=>jN9 (by omega) _
 obtain⟨x,hx⟩:∃ x,sz / 256=x:=⟨_,rfl⟩;obtain⟨y,hy⟩:∃ y,sz % 256=y:=⟨_,rfl⟩;have z0:H ([Ao .u8 (x:Int),Ao .u8 (y:Int)]++(eI (tat s) sz).map (Ao .u8)=(eI (frm s) (2+sz)).map (Ao .u8)):=jMc s sz x y o0 hx hy;have e1:IntKind.u8.wrap ((sz:Int) / 256)=(x:Int):=by rw[Di];omega
 have e2:IntKind.u8.wrap ((sz:Int) % 256)=(y:Int):=by rw[Di];omega
 have e3:Int.tdiv (sz:Int) 256=(sz:Int) / 256:=by rw[D0 (by omega)]
 have e4:Int.tmod (sz:Int) 256=(sz:Int) % 256:=by rw[Eg (by omega)]
 have p1:=fun w s=>run_bytes_of_string (P:=prog) w 9 22 5 s C6 Cr D9
 have b1:H (∀ (cap:Nat) (fr:Nat×Nat) (j:Nat) (u:Aj),((eI (tat s) sz).map (Ao .u8))[j]?=some u->(((w.alloc (J #[Ao .u8 (x:Int),Ao .u8 (y:Int)] 5)).alloc (J (bytesRow s cap) 5 fr)).drew).cell? (((Q (w.1.size+1) 0 I):Al).add j)=some u):=fun cap fr j u hu=>by
  have h1:=jHy (w:=w.alloc (J #[Ao .u8 (x:Int),Ao .u8 (y:Int)] 5)) s cap fr j u (by rw[o0];exact hu);have e:(w.alloc (J #[Ao .u8 (x:Int),Ao .u8 (y:Int)] 5)).1.size=w.1.size+1:=by simp
  rw[e] at h1;exact h1
 have c1:H ((w.alloc (J #[Ao .u8 (x:Int),Ao .u8 (y:Int)] 5)).ownsRow w.1.size 5 1 (V (Q w.1.size 0 I) 2 2) 2 [Ao .u8 (x:Int),Ao .u8 (y:Int)]):=Cc w #[Ao .u8 (x:Int),Ao .u8 (y:Int)] 2 (Ay _) (by unfold Au;omega) rfl;have r0:((eI (tat s) sz).map (Ao .u8)).length=sz*1:=by simp[vA]
 have p0:H _:=jR5 (tat s) sz;clear he hr hl g0 hR hm hx hy;go_enter func127,ntmps127
 go_wp2_with (first|(go_at_call 155;refine(jB5 _ _ _).mono ?_;rintro e w' ⟨rfl,hw⟩;obtain rfl:=hw.symm;clear hw)|(go_at_call 161;refine(hB _).mono ?_;rintro e w' ⟨rfl,hw⟩;obtain rfl:=hw.symm;clear hw)|(at_builtin;(refine qF _ rfl _ _ 22 rfl w.1.size 5 i0 (Ao .u8 0) 1 1 Cr hi v1 w1 x1 rfl (by decide) w.1.size 2 2 _ rfl ((Cb c1.out _).drew) ⟨w.1.size+1,0,I⟩ sz _ ((eI (tat s) sz).map (Ao .u8)) rfl r0 (b1.out _ _) p0.out (by unfold Au;omega) (by omega) (by simp;omega) ?_);intro g3 cap3 w3 hown3 hgrow3))
 have m1:Ab w.1.size w w3:=((((Az w.1.size w).alloc (Ay _) (J #[Ao .u8 (x:Int),Ao .u8 (y:Int)] 5)).alloc (by simp) _).drew).grown hgrow3 (by simp;omega) (fun j hj=>by cases hj;exact Ay _);have K3:H (vY w3 w.1.size g3 (2+sz) cap3 (frm s)):=by
  show vY _ _ _ _ _ _;unfold vY;rw[<-z0.out];exact hown3
 have KB3:H (Ab w.1.size w w3):=m1;clear hown3 hgrow3 m1 b1 c1 p0 r0 e1 e2 e3 e4 z0 p1 hB;go_loopw [9] (fun v wr=>∃ m g c:Nat,2+sz<=m/\m<=NN/\v=V g m c/\vY wr w.1.size g m c (frm s)/\Ab w.1.size w wr) (fun v _=>NN-lenV v)
 case atStart=>exact⟨2+sz,g3,cap3,Ay _,by omega,rfl,K3.out,KB3.out⟩
 case round=>
  obtain⟨m,g,c,i3,j3,rfl,a0,b0⟩:=hrel;clear K3 KB3;by_cases hlt:m<NN
  .have o2:(m:Int)<(NN:Int):=by omega
   have d0:=b0.size;have t0:=a0.lt.1;have y1:H (frm s m=0):=jPq (by omega);go_wp2_with (at_builtin;refine De _ rfl _ _ 22 rfl w.1.size 5 i0 (Ao .u8 0) 1 1 Cr hi v1 w1 x1 rfl (by decide) (V g m c) m _ rfl (Cb a0 _) ⟨wr.1.size,0,I⟩ 1 1 [Ao .u8 0] rfl rfl (Cf (cs:=#[Ao .u8 0]) (t:=5) (fr:=(0,0)) (Cq wr _)) (by simp[Aq]) (by omega) (by unfold Au;omega) (by omega) (by simp;omega) (wr.1.size+1) (by simp) ?_;intro g4 cap4 w4 n0 c0 k1 v0)
   have HO:H (vY w4 w.1.size g4 (m+1) cap4 (frm s)):=by
    show vY _ _ _ _ _ _;unfold vY;rw[jMa,y1.out];exact n0
   have hb':Ab w.1.size w w4:=(b0.alloc d0 _).grown (show World.grownBy _ w4 (some g) from c0) (by simp;omega) (fun j hj=>by cases hj;exact t0);clear n0 c0 k1 v0 a0;go_roundw
   case rel=>exact⟨m+1,g4,cap4,by omega,by omega,rfl,HO.out,hb'⟩
   case measure=>simp[lenV] <;> omega
  .obtain rfl:NN=m:=by omega
   have o2:¬ (NN:Int)<(NN:Int):=by omega
   have KA:H (∀ q,q<NN->wr.cell? (Q g q I)=some (Ao .u8 ((frm s q:Nat):Int))):=fun q hq=>a0.cell hq
   have s2:NN<=c:=jM1 a0;have t1:=b0.size;have x0:H (Ab w.1.size w wr):=b0;obtain⟨wA,u1⟩:∃ wA,wr=wA:=⟨_,rfl⟩;rw[u1] at KA x0 t1;have K0:H (jI (wA.alloc (J #[] 9)) wA.1.size (Q wA.1.size 0 I) 0 0 (fun j=>txt (pcs (frm s) l j) l)):=jIq wA _;clear a0 b0;go_wp2
   clear u1;go_loopw [10,11] (fun v i wr=>∃ j a G c2:Nat,j<=K/\H (a=j*l)/\i=Ao Ar (j:Int)/\v=V G j c2/\jI wr wA.1.size G j c2 (fun j=>txt (pcs (frm s) l j) l)/\Ab wA.1.size wA wr) (fun _ i _=>K-(intOf i).toNat)
   case atStart=>exact⟨0,0,_,_,Bi _,by show 0=0*l;omega,rfl,rfl,K0.out,(Az _ _).alloc (Ay _) _⟩
   case round=>
    obtain⟨j,a,G,c2,f3,HA,rfl,rfl,a0,b0⟩:=hrel;clear K0;by_cases hjl:j<K
    .have n2:(j:Int)<(K:Int):=by omega
     have d0:=b0.size;have t0:=(A0 a0 _ rfl).1;have b3:a+l<=NN:=by
      rw[HA.out,z1.out];have:(j+1)*l<=K*l:=Du _ hjl
      rw[F0] at this;omega
     have u0:(j:Int)*(l:Int)=(a:Int):=by rw[HA.out,Int.natCast_mul]
     have q1:((j:Int)+1)*(l:Int)=(a:Int)+(l:Int):=by rw[Int.add_mul,u0,Int.one_mul]
     have l3:IntKind.i64.wrap ((j:Int)*(l:Int))=(a:Int):=by rw[u0,A8];omega
     have m3:IntKind.i64.wrap (((j:Int)+1)*(l:Int))=(a:Int)+(l:Int):=by rw[q1,A8];omega
     have u2:(0:Int)<=(a:Int):=by omega
     have v2:(a:Int)<=(a:Int)+(l:Int):=by omega
     have x2:(a:Int)+(l:Int)<=(c:Int):=by omega
     have y2:a+l-a=l:=by omega
     have z2:¬ (c=a):=by omega
     have j0:∀ p,p<l->wr.cell? (Q g (a+p) I)=some (Ao .u8 ((eI (pcs (frm s) l j) l).getD p 0)):=fun p hp=>by
      have h0:=KA (a+p) (by omega);rw[(b0.cell (p:=Q g (a+p) I) (A7 h0)).trans h0,JU _ _ _ hp];unfold pcs;rw[HA.out]
     have o1:=Dq (P:=prog) wr 22 5 Cr D9 g a l (c-a) (eI (pcs (frm s) l j) l) (vA _ _) j0 9 C6;rw[show strOfNums (eI (pcs (frm s) l j) l)=txt (pcs (frm s) l j) l from rfl] at o1;obtain⟨sv,w0⟩:∃ sv,txt (pcs (frm s) l j) l=sv:=⟨_,rfl⟩;rw[w0] at o1;have b2:H (txt (pcs (frm s) l j) l=sv):=w0;have HA2:H (a+l=(j+1)*l):=by show _=_;rw[HA.out,F0]
     clear j0 w0 u0 q1;go_wp2_with (at_builtin;refine De _ rfl _ _ 27 rfl wA.1.size 9 i1 Ap 1 16 C3 hj p2 q2 r2 rfl (by decide) (V G j c2) j _ rfl (Cb a0 _) ⟨wr.1.size,0,I⟩ 1 1 [Ag sv] rfl rfl (Cf (cs:=#[Ag sv]) (t:=9) (fr:=(0,0)) (Cq wr _)) (by simp[Aq]) (by omega) (by unfold Au;omega) (by omega) (by simp;omega) (wr.1.size+1) (by simp) ?_;intro g2 cap2 w2 m0 k0 j2 r1)
     have HO:H (jI w2 wA.1.size g2 (j+1) cap2 (fun j=>txt (pcs (frm s) l j) l)):=by
      show jI _ _ _ _ _ _;unfold jI;rw[QC,b2.out];exact m0
     have hb':Ab wA.1.size wA w2:=(b0.alloc d0 _).grown (show World.grownBy _ w2 (some G) from k0) (by simp;omega) (fun j hj=>by cases hj;exact t0);clear m0 k0 j2 r1 a0;go_roundw
     case rel=>exact⟨j+1,a+l,g2,cap2,by omega,HA2,by go_num,rfl,HO.out,hb'⟩
     case measure=>simp[intOf] <;> omega
    .obtain rfl:K=j:=by omega
     have n2:¬ (K:Int)<(K:Int):=by omega
     have KT:H (jL wr G K (fun j=>txt (pcs (frm s) l j) l)):=jI.at a0;have d0:=b0.size;clear a0;go_wp2_with fail
     refine Ax (a2 _) ?_;rintro e w5 ⟨v,rfl,i2,s0⟩;obtain⟨am,cm,Am,Cm,rfl,g1⟩:=i2;have a1:H (ZN w5 am M (fun _=>K) (fun i j=>((Gm.sprd K i j:Nat):Int))):=g1.at;have f1:H (jL w5 G K (fun j=>txt (pcs (frm s) l j) l)):=KT.below s0;have k3:=s0.size;clear g1 KT;go_wp2_with fail
     refine Ax (jLb am cm M (Gm.sprd K) G c2 K l (fun j=>txt (pcs (frm s) l j) l) w5 a1 f1 (fun _ _=>zO _ _) (by omega) ⟨e0,f0⟩ (by omega) (Gm.sprd_byt K)) ?_;rintro e w6 ⟨G6,c6,rfl,j1,k2⟩;have HO:H (jCp w w6 (V G6 M c6) M (ZE s K)):=⟨_,_,rfl,by
      rw[y0.out];exact jI.congr (jI.base j1 (by omega)) (fun i _=>jI1 (fun _ _=>rfl) (fun t p _ hp=>jFp hp (f2 _)))⟩
     clear j1 a1 f1;go_wp2
     go_ret2
     exact⟨_,rfl,HO,jA (jA (jA x0 b0) s0) k2⟩
end Go.Proofs.YtcaejlalnjnifaaGreat
