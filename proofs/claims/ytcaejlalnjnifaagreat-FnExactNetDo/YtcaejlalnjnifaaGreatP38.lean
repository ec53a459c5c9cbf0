import Derived.Test.YtcaejlalnjnifaaGreatP32
import Derived.Test.YtcaejlalnjnifaaGreatP33
set_option maxHeartbeats 8000000
set_option maxRecDepth 2000
open Go.Value renaming slice->V,agg->Ai,int->Ao
open Option renaming none->I
open Go.RowKit renaming Hid->H,Below->Ab
open Go.Addr renaming mk->Q
open Go.Obj renaming cells->J
open Go renaming World->Ad,Calls->Ak
open Go.Ending renaming returned->Ae
open Go.IntKind renaming i64->Ar
open Bool renaming false->Av,true->Aw
open Go.Proofs.Tryz
open Go.ChangeShapes Go.WideShapes Go.ChangeAt Go.RowKit
namespace Go.Proofs.YtcaejlalnjnifaaGreat
def jG3 (id f:Int) (n:Nat) (S:Nat->Sl) (y:Sy):Prop:=y.t=id/\(y.f = -1\/(0<=y.f/\y.f<3*f+1))/\(0<=y.k/\y.k<=2)/\y.r.size=16/\(n<40\/0<=plX S y.r n)
noncomputable def vK (id f:Int) (n:Nat) (S:Nat->Sl) (y:Sy):Bool:=@decide (jG3 id f n S y) (Classical.propDecidable _)
theorem QN {id f:Int} {n:Nat} {S:Nat->Sl} {y:Sy} (h:jG3 id f n S y):vK id f n S y=Aw:=by unfold vK;exact @Bf _ (Classical.propDecidable _) h
theorem vF {id f:Int} {n:Nat} {S:Nat->Sl} {y:Sy} (h:¬ jG3 id f n S y):vK id f n S y=Av:=by unfold vK;exact @Bh _ (Classical.propDecidable _) h
theorem jDd (id f:Int) (a:OA) (n cap:Nat) (S:Nat->Sl) (y:Sy) (a9:OA) (m9 c9:Nat) (w:Ad) (h:Rd w (qG n S) (V a n cap)) (hn:n<=1048576) (hf:1<=f/\f<=3):CB 46 #[ndV id f (V a n cap),syV y (V a9 m9 c9)] w (vK id f n S y):=by
 obtain⟨A,HA⟩:=nmH w.1.size;obtain⟨w0,b0⟩:=nmH ((w.alloc (J #[id,f,V a n cap] 26)).alloc (J (syC y (V a9 m9 c9)) 31));obtain⟨C,HC⟩:=nmH (w.1.size+1);have RA:=zP b0 HA;have RC:=JO b0 HC;have n0:=bl2 b0;have h0:H (Ab w w w0):=n0;have KK:H (∀ W,CB 107 #[ndV id f (V a n cap),y.f] W (decide (0<=y.f/\y.f<3*f+1))):=fun W=>ZW id f y.f _ W hf
 have KP:H (∀ W,Ab w0 w0 W->CB 58 #[ndV id f (V a n cap),y.r] W (plX S y.r n)):=fun W hW=>JW id f a n cap S y.r W ((h.below n0).below hW) hn
 clear h n0;by_cases h1:y.t=id
 case neg=>
  have HR:H (vK id f n S y=Av):=vF (fun k=>h1 k.1);have o0:(y.t !=id)=Aw:=by simpa using h1
  have x0:=RA.cell 0;have x2:=RC.cell 2;simp at x0 x2;go_enter Gh,F7
  go_wp2_with fail
  rw[<-b0.out];go_ret
  exact⟨by rw[HR.out];rfl,h0⟩
 obtain⟨kb,j0⟩:=nnH (decide (0<=y.f/\y.f<3*f+1));rw[j0.out] at KK;have o0:(y.t !=id)=Av:=by simpa using h1
 have c0:=RA.cell 0;have c1:=RA.cell 1;have c2:=RA.cell 2;have d1:=RC.cell 1;have d2:=RC.cell 2;simp at c0 c1 c2 d1 d2;have H1:H (y.t=id):=h1;by_cases h2:y.f = -1
 .have p0:(y.f !=-1)=Av:=by simpa using h2
  have HQ:H (y.f = -1\/(0<=y.f/\y.f<3*f+1)):=.inl h2;have KX:H (Ab w0 w0 w0):=Az _ _;clear h2;have d0:=RA.below KX RA.lt;have f0:=RC.below KX RC.lt;have x2:=d0.cell 2;have q0:=f0.cell 0;have q3:=f0.cell 3;have r0:=d0.cell 0;have r1:=d0.cell 1;simp at x2 q0 q3 r0 r1;have a0:H (Ab w w w0):=jA h0 KX;clear d0 f0;by_cases h3:y.k<0
  case pos=>
   have HR:H (vK id f n S y=Av):=vF (fun k=>by have:=k.2.2.1;omega);go_enter Gh,F7
   go_upto_region 1 with fail
   rw[<-b0.out,<-HC.out,<-HA.out];go_wp2
   go_ret
   exact⟨by rw[HR.out];rfl,a0⟩
  by_cases h4:y.k>2
  case pos=>
   have HR:H (vK id f n S y=Av):=vF (fun k=>by have:=k.2.2.1;omega);go_enter Gh,F7
   go_upto_region 1 with fail
   rw[<-b0.out,<-HC.out,<-HA.out];go_wp2
   go_ret
   exact⟨by rw[HR.out];rfl,a0⟩
  by_cases h5:y.r.size=16
  case neg=>
   have HR:H (vK id f n S y=Av):=vF (fun k=>h5 k.2.2.2.1);have k0:((y.r.size:Int) !=16)=Aw:=by simp;omega
   go_enter Gh,F7
   go_upto_region 1 with fail
   rw[<-b0.out,<-HC.out,<-HA.out];go_wp2
   go_ret
   exact⟨by rw[HR.out];rfl,a0⟩
  have k0:((y.r.size:Int) !=16)=Av:=by simp;omega
  have H5:H (y.r.size=16):=h5;by_cases h6:n<40
  case pos=>
   have HR:H (vK id f n S y=Aw):=QN ⟨h1,HQ,⟨by omega,by omega⟩,h5,.inl h6⟩;have m0:(n:Int)<40:=by omega
   clear h5 h6;go_enter Gh,F7
   go_upto_region 1 with fail
   rw[<-b0.out,<-HC.out,<-HA.out];go_wp2
   go_ret
   exact⟨by rw[HR.out];rfl,a0⟩
  have m0:¬ ((n:Int)<40):=by omega
  have g0:H _:=KP w0 KX;obtain⟨px,e0⟩:=nnH (plX S y.r n);rw[e0.out] at g0;have HR:H (vK id f n S y=decide (px≥0)):=by
   show _=_;by_cases h7:px≥0
   .rw[QN ⟨h1,HQ.out,⟨by omega,by omega⟩,h5,.inr (by rw[e0.out];exact h7)⟩,Bf h7]
   .rw[vF (fun k=>by rcases k.2.2.2.2 with k|k;exact h6 k;rw[e0.out] at k;exact h7 k),Bh h7]
  clear h5 h6;go_enter Gh,F7
  go_upto_region 1 with fail
  rw[<-b0.out,<-HC.out,<-HA.out];go_wp2_with fail
  refine Ax g0.out ?_;rintro e wp ⟨rfl,bp⟩;have i0:H (Ab w w wp):=jA a0 bp;clear bp;go_wp2
  go_ret
  exact⟨by rw[HR.out];first|rfl|(show Ending.returned (Value.bool (decide ((n:Int)<40) || decide (0<=px)))=_;rw[Bh (by omega)];rfl),i0.out⟩
 .have p0:(y.f !=-1)=Aw:=by simpa using h2
  cases kb with
  | false=>
   have HR:H (vK id f n S y=Av):=vF (fun k=>by
    rcases k.2.1 with k|k
    .exact h2 k
    .exact Gb j0 k)
   clear h2;go_enter Gh,F7
   go_wp2_with fail
   rw[<-b0.out];refine Ax (KK _) ?_;rintro e w1 ⟨rfl,b1⟩;go_wp2
   go_ret
   exact⟨by rw[HR.out];rfl,jA h0 b1⟩
  | true=>
   have HQ:H (y.f = -1\/(0<=y.f/\y.f<3*f+1)):=.inr (Do j0);clear h2;go_enter Gh,F7
   go_wp2_with fail
   rw[<-b0.out,<-HC.out,<-HA.out];refine Ax (KK _) ?_;rintro e w1 ⟨rfl,b1⟩;have KX:H (Ab w0 w0 w1):=b1;clear b1 c0 c1 c2 d1 d2;have d0:=RA.below KX RA.lt;have f0:=RC.below KX RC.lt;have x2:=d0.cell 2;have q0:=f0.cell 0;have q3:=f0.cell 3;have r0:=d0.cell 0;have r1:=d0.cell 1;simp at x2 q0 q3 r0 r1;have a0:H (Ab w w w1):=jA h0 KX;clear d0 f0;by_cases h3:y.k<0
   case pos=>
    have HR:H (vK id f n S y=Av):=vF (fun k=>by have:=k.2.2.1;omega);go_wp2
    go_ret
    exact⟨by rw[HR.out];rfl,a0⟩
   by_cases h4:y.k>2
   case pos=>
    have HR:H (vK id f n S y=Av):=vF (fun k=>by have:=k.2.2.1;omega);go_wp2
    go_ret
    exact⟨by rw[HR.out];rfl,a0⟩
   by_cases h5:y.r.size=16
   case neg=>
    have HR:H (vK id f n S y=Av):=vF (fun k=>h5 k.2.2.2.1);have k0:((y.r.size:Int) !=16)=Aw:=by simp;omega
    go_wp2
    go_ret
    exact⟨by rw[HR.out];rfl,a0⟩
   have k0:((y.r.size:Int) !=16)=Av:=by simp;omega
   have H5:H (y.r.size=16):=h5;by_cases h6:n<40
   case pos=>
    have HR:H (vK id f n S y=Aw):=QN ⟨h1,HQ,⟨by omega,by omega⟩,h5,.inl h6⟩;have m0:(n:Int)<40:=by omega
    clear h5 h6;go_wp2
    go_ret
    exact⟨by rw[HR.out];rfl,a0⟩
   have m0:¬ ((n:Int)<40):=by omega
   have g0:H _:=KP w1 KX;obtain⟨px,e0⟩:=nnH (plX S y.r n);rw[e0.out] at g0;have HR:H (vK id f n S y=decide (px≥0)):=by
    show _=_;by_cases h7:px≥0
    .rw[QN ⟨h1,HQ.out,⟨by omega,by omega⟩,h5,.inr (by rw[e0.out];exact h7)⟩,Bf h7]
    .rw[vF (fun k=>by rcases k.2.2.2.2 with k|k;exact h6 k;rw[e0.out] at k;exact h7 k),Bh h7]
   clear h5 h6;go_wp2_with fail
   refine Ax g0.out ?_;rintro e wp ⟨rfl,bp⟩;have i0:H (Ab w w wp):=jA a0 bp;clear bp;go_wp2
   go_ret
   exact⟨by rw[HR.out];first|rfl|(show Ending.returned (Value.bool (decide ((n:Int)<40) || decide (0<=px)))=_;rw[Bh (by omega)];rfl),i0.out⟩
end Go.Proofs.YtcaejlalnjnifaaGreat
namespace Go.Proofs.YtcaejlalnjnifaaGreat
open Go.ChangeShapes Go.WideShapes Go.ChangeAt Go.RowKit Go.Sort
theorem jA6 (f:Int) (a:OA) (n c:Nat) (l:OA) (zs:List Int) (d:Nat) (e:OA) (m g:Nat) (N:Nat->Nd) (w:Ad) (h1:Rd w (qS n N) (V a n c)) (h2:jH w l zs.length zs) (hn:n<=1048576) (hz:zs.length<=1048576) (hN:∀ i,i<n->NdN (N i)):CB 22 #[Ai #[f,V a n c,V l zs.length d,V e m g]] w (ntB f n N zs m):=by
 obtain⟨A,HA⟩:=nmH w.1.size;obtain⟨w0,e0⟩:=nmH (w.alloc (J #[f,V a n c,V l zs.length d,V e m g] 48));have RA:=jZ e0 HA;have h0:=bl1 e0;have f0:H (Ab w w w0):=h0;have KH:H (Rd w0 (qS n N) (V a n c)):=h1.below h0;have o0:H (∀ i,i<n->NdN (N i)):=hN;have x0:=RA.cell 0;have x1:=RA.cell 1;have x2:=RA.cell 2;have x3:=RA.cell 3;simp at x0 x1 x2 x3;have X0:∀ d os,(grow (redrawn w0 d) os).cell? (Q A 0 I)=_:=fun d os=>cell_regrown x0 d os
 have X1:∀ d os,(grow (redrawn w0 d) os).cell? (Q A 1 I)=_:=fun d os=>cell_regrown x1 d os
 have X2:∀ d os,(grow (redrawn w0 d) os).cell? (Q A 2 I)=_:=fun d os=>cell_regrown x2 d os
 have X3:∀ d os,(grow (redrawn w0 d) os).cell? (Q A 3 I)=_:=fun d os=>cell_regrown x3 d os
 have N1:∀ d os,Ak prog 43 #[f,(1:Int),(3:Int)] (grow (redrawn w0 d) os) fun e w'=>e=Ae (inB f 1 3)/\∃ p:Regrown,w'=grow (redrawn w0 p.d) p.os:=fun d os=>Calls.regrown_of ((jM f 1 3 _).mono fun e w' h=>⟨h.1,by rw[h.2];exact Az _ _⟩)
 by_cases hf:1<=f/\f<=3
 case neg=>
  have e1:inB f 1 3=Av:=Bh hf;rw[e1] at N1;have N2:=N1;have N3:=N1;rw[xO (fun h=>hf h.1)];go_enter func22,ntmps22
  go_wp2_with fail
  rw[<-e0.out,<-HA.out];refine wp_region_quiet_below (by kernel_rfl) (by kernel_rfl) ?_;repeat (go_big_quiet_step (first|(with_reducible exact N1 _ _)|(with_reducible exact N2 _ _)|(with_reducible exact N3 _ _)))
  refine Ct ?_;intro _ c0;obtain⟨⟨dq,b0⟩,a0⟩:=c0;subst a0;go_wp2
  go_ret
  exact⟨rfl,jA f0 (below_regrown w0 dq b0)⟩
 have e1:inB f 1 3=Aw:=Bf hf;rw[e1] at N1;obtain⟨q,HQ⟩:∃ q:Int,H (3*f+1=q):=⟨_,rfl⟩;have N2:∀ d os,Ak prog 50 #[f] (grow (redrawn w0 d) os) fun e w'=>e=Ae q/\∃ p:Regrown,w'=grow (redrawn w0 p.d) p.os:=fun d os=>Calls.regrown_of ((vQ f _ hf).mono fun e w' h=>⟨by rw[h.1,HQ.out],by rw[h.2];exact Az _ _⟩)
 obtain⟨b,i0⟩:=nnH (JH f zs);have N3:∀ d' os,Ak prog 60 #[V l zs.length d,f] (grow (redrawn w0 d') os) fun e w'=>e=Ae b/\∃ p:Regrown,w'=grow (redrawn w0 p.d) p.os:=fun d' os=>Calls.regrown_of (by have:=jAj f l zs.length d zs (grow (redrawn w0 d') os) ((h2.below h0).below (below_regrown w0 d' os)) hf hz;rw[i0.out] at this;exact this)
 have HF:H (1<=f/\f<=3):=hf;clear hf e1 h1 h2 hN h0;cases b with
 | false=>
  rw[xO (fun h=>by have:=i0.out;rw[h.2.2.2.1] at this;cases this)];go_enter func22,ntmps22
  go_wp2_with fail
  rw[<-e0.out,<-HA.out];refine wp_region_quiet_below (by kernel_rfl) (by kernel_rfl) ?_;repeat (go_big_quiet_step (first|(with_reducible exact N1 _ _)|(with_reducible exact N2 _ _)|(with_reducible exact N3 _ _)))
  refine Ct ?_;intro _ c0;obtain⟨⟨dq,b0⟩,a0⟩:=c0;subst a0;go_wp2
  go_ret
  exact⟨rfl,jA f0 (below_regrown w0 dq b0)⟩
 | true=>
 obtain⟨z,HZ⟩:=nnH zs.length;rw[HZ.out] at N3 e0 RA X2 x2;rw[HZ.out];by_cases hzl:(z:Int)<=f
 case neg=>
  have u0:decide (f<(z:Int))=Aw:=Bf (by omega);have v0:(z:Int)>f:=by omega
  rw[xO (fun h=>hzl (by have:=h.2.2.1;rw[HZ.out] at this;exact this))];go_enter func22,ntmps22
  go_wp2_with fail
  rw[<-e0.out,<-HA.out];refine wp_region_quiet_below (by kernel_rfl) (by kernel_rfl) ?_;repeat (go_big_quiet_step (first|(with_reducible exact N1 _ _)|(with_reducible exact N2 _ _)|(with_reducible exact N3 _ _)))
  refine Ct ?_;intro _ c0;obtain⟨⟨dq,b0⟩,a0⟩:=c0;subst a0;go_wp2
  go_ret
  exact⟨rfl,jA f0 (below_regrown w0 dq b0)⟩
 have u0:decide (f<(z:Int))=Av:=Bh (by omega);have v0:¬ (z:Int)>f:=by omega
 by_cases hq:(n:Int)=q
 case neg=>
  have s0:((n:Int) !=q)=Aw:=by simp[hq]
  rw[xO (fun h=>hq (h.2.1.trans HQ.out))];go_enter func22,ntmps22
  go_wp2_with fail
  rw[<-e0.out,<-HA.out];refine wp_region_quiet_below (by kernel_rfl) (by kernel_rfl) ?_;repeat (go_big_quiet_step (first|(with_reducible exact N1 _ _)|(with_reducible exact N2 _ _)|(with_reducible exact N3 _ _)))
  refine Ct ?_;intro _ c0;obtain⟨⟨dq,b0⟩,a0⟩:=c0;subst a0;go_wp2
  go_ret
  exact⟨rfl,jA f0 (below_regrown w0 dq b0)⟩
 have s0:((n:Int) !=q)=Av:=by simp[hq]
 by_cases hm:m<=3000
 case neg=>
  have q0:decide ((3000:Int)<(m:Int))=Aw:=Bf (by omega);have r0:(m:Int)>3000:=by omega
  rw[xO (fun h=>hm h.2.2.2.2.1)];go_enter func22,ntmps22
  go_wp2_with fail
  rw[<-e0.out,<-HA.out];refine wp_region_quiet_below (by kernel_rfl) (by kernel_rfl) ?_;repeat (go_big_quiet_step (first|(with_reducible exact N1 _ _)|(with_reducible exact N2 _ _)|(with_reducible exact N3 _ _)))
  refine Ct ?_;intro _ c0;obtain⟨⟨dq,b0⟩,a0⟩:=c0;subst a0;go_wp2
  go_ret
  exact⟨rfl,jA f0 (below_regrown w0 dq b0)⟩
 have q0:decide ((3000:Int)<(m:Int))=Av:=Bh (by omega);have r0:¬ (m:Int)>3000:=by omega
 have c1:H ((n:Int)=3*f+1):=hq.trans HQ.symm;have n0:H ((zs.length:Int)<=f/\JH f zs=Aw):=⟨by rw[HZ.out];exact hzl,i0⟩;go_enter func22,ntmps22
 go_wp2_with fail
 rw[<-e0.out,<-HA.out];refine wp_region_quiet_below (by kernel_rfl) (by kernel_rfl) ?_;repeat (go_big_quiet_step (first|(with_reducible exact N1 _ _)|(with_reducible exact N2 _ _)|(with_reducible exact N3 _ _)))
 refine Ct ?_;intro _ c0;obtain⟨⟨dq,b0⟩,a0⟩:=c0;subst a0;have KB1:H (Ab w0 w0 (grow (redrawn w0 dq) b0)):=below_regrown w0 dq b0;generalize grow (redrawn w0 dq) b0=w1 at *;clear X0 X1 X2 X3 N1 N2 N3 x0 x1 x2 x3 u0 v0 s0 q0 r0;go_wp2_with fail
 go_loopw [3] (fun vi wr=>∃ k:Nat,k<=n/\vi=Ao Ar (k:Int)/\H (∀ i,i<k->(N i).i=(i:Int)/\(N i).f=f/\NdP (N i).i (N i).f (N i).n (N i).S)/\Ab w0 w0 wr) (fun vi _=>n-(intOf vi).toNat)
 case atStart=>exact⟨0,Bi _,rfl,fun i hi=>Bo hi (Bk _),KB1⟩
 case round=>
  obtain⟨k,hk,rfl,HP,d0⟩:=hrel;have m0:=RA.below d0 RA.lt;have x0:=m0.cell 0;have x1:=m0.cell 1;simp at x0 x1;clear m0;by_cases hlt:k<n
  case neg=>
   obtain rfl:k=n:=by omega
   have HY:H (ntB f k N zs m=Aw):=jJ0 ⟨HF,c1,n0.1,n0.2,hm,HP⟩;go_wp2
   go_ret
   exact⟨jQ HY.symm,jA f0 d0⟩
  have k1:(k:Int)<(n:Int):=by omega
  obtain⟨b1,f1,an,cn,rfl,⟨y0,y1,y2⟩,_,t0⟩:=zH (KH.below d0) hlt;have X0:∀ d os,(grow (redrawn wr d) os).cell? (Q A 0 I)=_:=fun d os=>cell_regrown x0 d os
  have X1:∀ d os,(grow (redrawn wr d) os).cell? (Q A 1 I)=_:=fun d os=>cell_regrown x1 d os
  have Y0:∀ d os,(grow (redrawn wr d) os).cell? (Q b1 (f1+k*3) I)=_:=fun d os=>cell_regrown y0 d os
  have Y1:∀ d os,(grow (redrawn wr d) os).cell? (Q b1 (f1+k*3+1) I)=_:=fun d os=>cell_regrown y1 d os
  have Y2:∀ d os,(grow (redrawn wr d) os).cell? (Q b1 (f1+k*3+2) I)=_:=fun d os=>cell_regrown y2 d os
  obtain⟨o,HO⟩:=nnH (ndB (N k).i (N k).f (N k).n (N k).S);have N1:∀ d os,Ak prog 14 #[Ai #[Ao Ar (N k).i,Ao Ar (N k).f,V an (N k).n cn]] (grow (redrawn wr d) os) fun e w'=>e=Ae o/\∃ p:Regrown,w'=grow (redrawn wr p.d) p.os:=fun d os=>Calls.regrown_of (by have:=QA (N k).i (N k).f an (N k).n cn (N k).S (grow (redrawn wr d) os) (t0.below (below_regrown wr d os)) (o0 k hlt).n (o0 k hlt).s;rw[HO.out] at this;exact this)
  have N2:=N1;have N3:=N1;obtain⟨ki,k0⟩:=nnH ((N k).i);obtain⟨kf,j0⟩:=nnH ((N k).f);rw[k0.out] at Y0 N1 N2 N3;rw[j0.out] at Y1 N1 N2 N3;have g0:H (Ab w w wr/\Ab w0 w0 wr):=⟨jA f0 d0,d0⟩;have HLT:H (k<n):=hlt;clear t0 y0 y1 y2 d0;by_cases hi:ki=(k:Int)
  case neg=>
   have p0:(ki !=(k:Int))=Aw:=by simp[hi]
   have HN:H (ntB f n N zs m=Av):=xO fun h=>hi (by rw[<-k0.out];exact(h.2.2.2.2.2 k HLT).1)
   go_wp2_with fail
   refine wp_region_quiet_below (by kernel_rfl) (by kernel_rfl) ?_;repeat (go_big_quiet_step (first|(with_reducible exact N1 _ _)|(with_reducible exact N2 _ _)|(with_reducible exact N3 _ _)))
   refine Ct ?_;intro _ c0;obtain⟨⟨dq,b0⟩,a0⟩:=c0;subst a0;go_wp2
   go_ret
   exact⟨jQ HN.symm,jA g0.1 (below_regrown wr dq b0)⟩
  have p0:(ki !=(k:Int))=Av:=by simp[hi]
  by_cases hff:kf=f
  case neg=>
   have g1:(kf !=f)=Aw:=by simp[hff]
   have HN:H (ntB f n N zs m=Av):=xO fun h=>hff (by rw[<-j0.out];exact(h.2.2.2.2.2 k HLT).2.1)
   go_wp2_with fail
   refine wp_region_quiet_below (by kernel_rfl) (by kernel_rfl) ?_;repeat (go_big_quiet_step (first|(with_reducible exact N1 _ _)|(with_reducible exact N2 _ _)|(with_reducible exact N3 _ _)))
   refine Ct ?_;intro _ c0;obtain⟨⟨dq,b0⟩,a0⟩:=c0;subst a0;go_wp2
   go_ret
   exact⟨jQ HN.symm,jA g0.1 (below_regrown wr dq b0)⟩
  have a1:H (ki=(k:Int)):=hi;have z0:H (kf=f):=hff;rw[hi] at Y0 N1 N2 N3;rw[hff] at Y1 N1 N2 N3;have m1:((k:Int) !=(k:Int))=Av:=by simp
  have i1:(f !=f)=Av:=by simp
  clear hi hff p0;cases o with
  | false=>
   have HN:H (ntB f n N zs m=Av):=xO fun h=>by
    have:=HO.out
    rw[ZX (h.2.2.2.2.2 k HLT.out).2.2] at this;cases this
   go_wp2_with fail
   refine wp_region_quiet_below (by kernel_rfl) (by kernel_rfl) ?_;repeat (go_big_quiet_step (first|(with_reducible exact N1 _ _)|(with_reducible exact N2 _ _)|(with_reducible exact N3 _ _)))
   refine Ct ?_;intro _ c0;obtain⟨⟨dq,b0⟩,a0⟩:=c0;subst a0;go_wp2
   go_ret
   exact⟨jQ HN.symm,jA g0.1 (below_regrown wr dq b0)⟩
  | true=>
   have HP2:H (∀ i,i<k+1->(N i).i=(i:Int)/\(N i).f=f/\NdP (N i).i (N i).f (N i).n (N i).S):=fun i j1=>by
    by_cases ei:i=k
    .subst ei;refine⟨k0.trans a1,j0.trans z0,?_⟩;exact Classical.byContradiction fun hc=>by have:=HO.out;rw[xX hc] at this;cases this
    .exact HP i (by omega)
   go_wp2_with fail
   refine wp_region_quiet_below (by kernel_rfl) (by kernel_rfl) ?_;repeat (go_big_quiet_step (first|(with_reducible exact N1 _ _)|(with_reducible exact N2 _ _)|(with_reducible exact N3 _ _)))
   refine Ct ?_;intro _ c0;obtain⟨⟨dq,b0⟩,a0⟩:=c0;subst a0;have KB4:H (Ab w0 w0 (grow (redrawn wr dq) b0)):=jA g0.2 (below_regrown wr dq b0);go_wp2
   go_roundw
   case rel=>exact⟨k+1,by have:=HLT.out;omega,by go_num,HP2,KB4.out⟩
   case measure=>have:=HLT.out;simp[intOf];omega
end Go.Proofs.YtcaejlalnjnifaaGreat
