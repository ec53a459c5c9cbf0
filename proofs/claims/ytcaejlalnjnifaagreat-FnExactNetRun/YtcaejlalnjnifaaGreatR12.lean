import Derived.Test.YtcaejlalnjnifaaGreatR9
set_option maxHeartbeats 8000000
set_option maxRecDepth 2000
open Go.Value renaming slice->V,string->Ag,tuple->Ah,int->Ao,oneCell'->Aq
open Option renaming none->I,some->M
open Go.RowKit renaming Hid->H,Below->Ab
open Go.Addr renaming mk->Q
open Go.Obj renaming cells->J
open Go renaming World->Ad,Calls->Ak,maxLen->Au
open Go.Ending renaming returned->Ae
open ByteArray renaming empty->Ap
open Go.IntKind renaming i64->Ar
open Bool renaming false->Av,true->Aw
open Go.Proofs.Tryz
open Go.ChangeShapes Go.WideShapes Go.ChangeAt Go.RowKit
namespace Go.Proofs.YtcaejlalnjnifaaGreat
set_option maxRecDepth 100000 in
theorem jPo (g N k l:Nat) (W:Nat->Nat) (w:Ad) (hW:∀ q,q<N->w.cell? (Q g q I)=M (Ao .u8 ((W q:Nat):Int))) (hN:N=k*l) (hk:1<=k/\k<=16) (hl:1<=l/\l<=100000):Ak prog 223 #[V g N N,(l:Int)] w fun e w'=>∃ G c,e=Ae (V (Q G 0 I) k c)/\jBi w' (Q G 0 I) k l (pcs W l)/\Ab w w w':=by
 obtain⟨i0,hi,m0,n0,o0⟩:=Cg Tryz.infoBytes;obtain⟨y0,g0⟩:=hk;obtain⟨a1,r0⟩:=hl;have hq:Int.tdiv (N:Int) (l:Int)=(k:Int):=by
  rw[hN,<-Int.ofNat_tdiv];congr 1
  exact Nat.mul_div_cancel _ (by omega)
 have w0:N<=1600000:=by rw[hN];exact By (Nat.mul_le_mul g0 r0) (by omega)
 have z0:((l:Int)==0)=Av:=by simp;omega
 have v0:¬ ((l:Int)=0):=by omega
 have t0:IntKind.i64.wrap (k:Int)=(k:Int):=by rw[A8];omega
 have KN:=hd hN;have KW:H (∀ q,q<N->w.cell? (Q g q I)=M (Ao .u8 ((W q:Nat):Int))):=hW;clear hN hW;go_enter func223,ntmps223
 go_wp2_with (at_make;refine wpList_make_own _ rfl _ _ 245 rfl w 22 i0 (V I 0 0) 1 underlying245 hi m0 n0 Ar Ar _ k rfl rfl (by first|rfl|assumption) (by rw[o0];omega) (by unfold Au;omega) (Ay _) ?_;intro w1 a0 b0)
 have f0:=(Az _ _).grown b0 (Ay _) (by simp);have K1:=hd a0;have KB1:=hd f0;clear a0 b0 f0 hq t0;go_loopw [5,6] (fun v p wr=>∃ i x G c:Nat,i<=k/\H (x=i*l)/\x+(k-i)*l=N/\p=Ao Ar (x:Int)/\v=V (Q G 0 I) i c/\wr.ownsRow w 22 1 (V (Q G 0 I) i c) i (hds (fun j=>M (Q g (j*l) I)) (fun _=>l) (fun _=>l) i)/\Ab w w wr) (fun _ p _=>N-(intOf p).toNat)
 case atStart=>exact⟨0,0,_,_,Bi _,by show 0=0*l;omega,by rw[KN.out];simp,rfl,rfl,K1.out,KB1⟩
 case round=>
  obtain⟨i,x,G,c,x0,HX,e0,rfl,rfl,a0,c0⟩:=hrel;clear K1 KB1;by_cases hlt:i<k
  .have c1:x+l<=N:=by
    rw[<-e0];have:l<=(k-i)*l:=Nat.le_mul_of_pos_left _ (by omega)
    omega
   have hxn2:x+l+(k-(i+1))*l=N:=by
    rw[<-e0,show k-i=k-(i+1)+1 by omega,F0];omega
   have HX2:H (x+l=(i+1)*l):=by show _=_;rw[HX.out,F0]
   have u0:(x:Int)<(N:Int):=by omega
   have s0:=c0.size;have p0:=(A0 a0 _ rfl).1;have b1:IntKind.i64.wrap ((x:Int)+(l:Int))=(x:Int)+(l:Int):=by rw[A8];omega
   have h1:(0:Int)<=(x:Int):=by omega
   have h2:(x:Int)<=(x:Int)+(l:Int):=by omega
   have h3:(x:Int)+(l:Int)<=(N:Int):=by omega
   have h4:¬ (x+l-x=0):=by omega
   have h5:x+l-x=l:=by omega
   have h6:¬ (x+l=x):=by omega
   clear e0;go_wp2_with (at_builtin;refine De _ rfl _ _ 245 rfl w 22 i0 (V I 0 0) 1 24 underlying245 hi m0 n0 o0 rfl (by decide) (V (M ⟨G,0,I⟩) i c) i _ rfl (Cb a0 _) ⟨wr.1.size,0,I⟩ 1 1 [V (M ⟨g,x,I⟩) l l] rfl rfl (Cf (cs:=#[V (Q g x I) l l]) (t:=22) (fr:=(0,0)) (Cq wr _)) (by simp[Aq]) (by omega) (by unfold Au;omega) (by omega) (by simp;omega) (wr.1.size+1) (by simp) ?_;intro g2 cap3 w2 d0 b0 q0 k0)
   have HO:H (w2.ownsRow w 22 1 (V g2 (i+1) cap3) (i+1) (hds (fun j=>M (Q g (j*l) I)) (fun _=>l) (fun _=>l) (i+1))):=by
    rw[jF7,<-HX.out];exact d0
   have hb':Ab w w w2:=(c0.alloc s0 _).grown (show World.grownBy _ w2 (M G) from b0) (by simp;omega) (fun j hj=>by cases hj;exact p0);clear d0 b0 q0 k0 a0;go_roundw
   case rel=>exact⟨i+1,x+l,g2,cap3,by omega,HX2,hxn2,by simp,rfl,HO.out,hb'⟩
   case measure=>simp[intOf] <;> omega
  .obtain rfl:i=k:=by omega
   have u0:¬ (x:Int)<(N:Int):=by
    have:x=N:=by rw[<-e0];simp
    omega
   have HP:H (jBi wr (Q G 0 I) i l (pcs W l)):=fun j hj=>by
    refine⟨G,0,g,j*l,l,rfl,?_,fun p hp=>?_⟩
    .rw[Bt,Br a0 j (by omega),ZW _ _ _ _ _ hj]
    .have j0:j*l+p<N:=by
      rw[KN.out];have:(j+1)*l<=i*l:=Du _ hj
      rw[F0] at this;omega
     have h0:=KW _ j0;exact(c0.cell (p:=Q g (j*l+p) I) (A7 h0)).trans h0
   clear a0 e0;go_wp2
   go_ret
   exact⟨G,⟨c,rfl⟩,HP,c0⟩
def vK (s:BA) (k n:Int):Bool:=decide (s.size<=2000)&&qV k n
def jBo (s:BA) (k n:Int):Nat:=if vK s k n=Aw then n.toNat else 0
def ZE (s:BA) (k:Nat):Nat->BA:=bod k (Gm.sprd k) (enc s k) (XE s.size k)
theorem zM {k n:Int} (h:qV k n=Aw):1<=k/\k<=n/\n<=16:=by
 have:(1<=n/\n<=16)/\1<=k/\k<=n:=by simpa [qV,jAp] using h
 omega
set_option maxRecDepth 100000 in
theorem jHf (s:BA) (k n:Int) (w:Ad) (hs:s.size<=1048576):Ak prog 209 #[s,k,n] w fun e w'=>∃ v,e=Ae (Ah #[v,(vK s k n)])/\jCp w w' v (jBo s k n) (ZE s k.toNat)/\Ab w.1.size w w':=by
 have d0:H _:=jIm k n w;obtain⟨sz,m0⟩:∃ sz,s.size=sz:=⟨_,rfl⟩;by_cases hok:qV k n=Aw
 case neg=>
  have h0:qV k n=Av:=by simpa using hok
  have he:vK s k n=Av:=by unfold vK;rw[h0];simp
  have hr:jBo s k n=0:=by unfold jBo;rw[A5 (by rw[he];simp)]
  rw[he,hr];rw[h0] at d0;have hB:=fun w=>JS (sz:Int) k w
  generalize blI (sz:Int) k=bl at hB;go_enter func209,ntmps209
  go_wp2_with fail
  refine Ax d0.out ?_;rintro e w1 ⟨v,rfl,_,c0⟩;go_wp2_with (go_at_call 221;refine(hB _).mono ?_;rintro e w' ⟨rfl,hw⟩;obtain rfl:=hw.symm)
  go_ret2
  exact⟨_,rfl,jCp.none _ _ _,c0⟩
 obtain⟨h1,h2,h3⟩:=zM hok;obtain⟨K,rfl⟩:=Dk (show 0<=k by omega);obtain⟨M,rfl⟩:=Dk (show 0<=n by omega);have hR:jBe (K:Int) (M:Int)=M:=by unfold jBe;rw[A6 hok];simp
 rw[hok,hR,Cy] at d0;by_cases hs2:sz<=2000
 case neg=>
  have he:vK s (K:Int) (M:Int)=Av:=by unfold vK;simp;omega
  have hr:jBo s (K:Int) (M:Int)=0:=by unfold jBo;rw[A5 (by rw[he];simp)]
  rw[he,hr];have hB:=fun w=>JS (sz:Int) (K:Int) w
  rw[jI0 (by omega)] at hB;go_enter func209,ntmps209
  go_wp2_with fail
  refine Ax d0.out ?_;rintro e w1 ⟨v,rfl,_,c0⟩;go_wp2_with (go_at_call 221;refine(hB _).mono ?_;rintro e w' ⟨rfl,hw⟩;obtain rfl:=hw.symm)
  go_ret2
  exact⟨_,rfl,jCp.none _ _ _,c0⟩
 have he:vK s (K:Int) (M:Int)=Aw:=by unfold vK;rw[hok];simp;omega
 have hr:jBo s (K:Int) (M:Int)=M:=by unfold jBo;rw[A6 he];simp
 rw[he,hr,Cy];have b0:1<=K:=by omega
 have a0:K<=16:=by omega
 have hB:=fun w=>JS (sz:Int) (K:Int) w
 rw[jBk hs2 b0 a0] at hB;have k0:=jEn (s:=sz) b0;have i0:=jF2 (s:=sz) b0;have g0:=ZP (s:=sz) b0;have j0:H (ZE s K=bod K (Gm.sprd K) (pcs (frm s) (XE sz K)) (XE sz K)):=by show _=_;unfold ZE;rw[m0];unfold enc;rw[m0]
 obtain⟨l,hl⟩:∃ l,XE sz K=l:=⟨_,rfl⟩;rw[hl] at hB k0 i0 g0 j0;obtain⟨NN,f0⟩:∃ NN,K*l=NN:=⟨_,rfl⟩;have u0:NN<=100000:=by rw[<-f0];exact By (Nat.mul_le_mul a0 g0) (by omega)
 rw[f0] at k0;have hm:(K:Int)*(l:Int)=(NN:Int):=by rw[<-f0,Int.natCast_mul]
 have f1:IntKind.i64.wrap ((K:Int)*(l:Int))=(NN:Int):=by rw[hm,A8];omega
 have e1:¬ ((l:Int)<0):=by omega
 have p0:=hd f0.symm;have s0:Gm.Byt (pcs (frm s) l):=fun i p=>jN9 (by omega) _
 go_enter func209,ntmps209
 go_wp2_with fail
 refine Ax d0.out ?_;rintro e w1 ⟨v,rfl,y0,c0⟩;obtain⟨am,cm,Am,Cm,rfl,t0⟩:=y0;have o0:=hd t0.at;go_wp2_with (go_at_call 221;refine(hB _).mono ?_;rintro e w' ⟨rfl,hw⟩;obtain rfl:=hw.symm)
 refine Ax (jHl s NN w1 (by omega) (by omega) u0) ?_;rintro e w2 ⟨rfl,v0,z0⟩;have q0:H (∀ q,q<NN->w2.cell? (Q w1 q I)=some (Ao .u8 ((frm s q:Nat):Int))):=fun q hq=>v0.cell hq
 go_wp2_with fail
 refine Ax (jPo w1 NN K l (frm s) w2 q0 p0 ⟨b0,a0⟩ ⟨i0,by omega⟩) ?_;rintro e w3 ⟨G3,c3,rfl,x0,a1⟩;have r0:=hd x0;have e0:=jA z0 a1;go_wp2_with fail
 refine Ax (jDs am cm M (Gm.sprd K) G3 c3 K l (pcs (frm s) l) w3 (o0.below e0) r0 s0 (by omega) ⟨b0,a0⟩ ⟨i0,by omega⟩ (Gm.sprd_byt K)) ?_;rintro e w4 ⟨rfl,w0,b1⟩;have c1:=By c0.size e0.size;have n0:H (jCp w w4 (V (Q w3 0 I) M M) M (ZE s K)):=⟨_,_,rfl,by rw[j0.out];exact jI.base w0 c1⟩;go_wp2
 go_ret2
 exact⟨_,rfl,n0,jA (jA c0 e0) b1⟩
theorem jB5 (k n:Int) (w:Ad):CS 155 #[k,n] w (qV k n):=by
 have HE:H (qV k n=(inB n 1 16&&inB k 1 n)):=by show _=_;unfold qV jAp inB;rfl
 cases h1:inB n 1 16 with
 | false=>
  have HF:H (qV k n=Av):=by show _=_;rw[HE.out,h1];rfl
  go_enter func155,ntmps155
  go_wp2_with (go_at_call 43;refine(jN _ _ _ _).mono ?_;rintro e w' ⟨rfl,hw⟩;obtain rfl:=hw.symm)
  go_ret
  exact⟨jT HF.symm,rfl⟩
 | true=>
  have HF:H (qV k n=inB k 1 n):=by show _=_;rw[HE.out,h1];rfl
  generalize inB k 1 n=b at HF;obtain⟨b,hb⟩:∃ b,inB k 1 n=b:=⟨_,rfl⟩;go_enter func155,ntmps155
  go_wp2_with (go_at_call 43;refine(jN _ _ _ _).mono ?_;rintro e w' ⟨rfl,hw⟩;obtain rfl:=hw.symm)
  go_ret
  exact⟨jT (by rw[HE.out,h1];simp[hb]),rfl⟩
theorem jFi {s:BA} {R:Nat->Nat} {T:Nat->Nat->Nat} {l:Nat} (hs:s.size=l) (hR:R 0<256) (hT:∀ p,p<l->tat s p=T 0 p):vX s ((R 0:Nat):Int)=txt (rs R T 1) l:=by
 refine jO8 (by rw[QF (qW hR),hs]) (fun p hp=>?_);rw[jEb s hR,hT p hp];unfold rs;rw[Gm.sm_s];show _=0 ^^^ _;rw[Nat.zero_xor,Gp.m_comm,<-hT p hp,Gp.m_nat (JB _ _) hR]
theorem jL5 {s:BA} {R:Nat->Nat} {T:Nat->Nat->Nat} {l k:Nat} (hs:s.size=l) (hR:R k<256) (hT:∀ p,p<l->tat s p=T k p):jL4 (txt (rs R T k) l) (vX s ((R k:Nat):Int))=txt (rs R T (k+1)) l:=by
 have hz:(vX s ((R k:Nat):Int)).size=l:=by rw[QF (qW hR),hs]
 have he:(txt (rs R T k) l).size=(vX s ((R k:Nat):Int)).size:=by rw[zO,hz]
 refine jO8 (by rw[jCr he,zO]) (fun p hp=>?_);rw[jQw he,jFp hp (jSe _ _ _ _),jEb s hR,hT p hp];unfold rs;rw[Gm.sm_s,<-hT p hp,Gp.m_comm (R k),Gp.m_nat (JB _ _) hR]
set_option maxRecDepth 100000 in
theorem jLb (ma:OA) (mc r:Nat) (F:Nat->Nat->Nat) (a:OA) (cp n l:Nat) (S:Nat->BA) (w:Ad) (hm:ZN w ma r (fun _=>n) (fun i j=>((F i j:Nat):Int))) (h:jL w a n S) (hS:∀ i,i<n->(S i).size=l) (hr:r<=1048576) (hn:1<=n/\n<=16) (hl:l<=1048576) (hF:Gm.Byt F):Ak prog 163 #[V ma r mc,V a n cp] w fun e w'=>∃ G c,e=Ae (V (Q G 0 I) r c)/\jI w' w.1.size (Q G 0 I) r c (bod n F (fun i p=>tat (S i) p) l)/\Ab w.1.size w w':=by
 obtain⟨i0,hi,n2,o2,p2⟩:=Cg Tryz.infoStr;obtain⟨hn1,q2⟩:=hn;have KH:H (jL w a n S):=h;have KM:H (ZN w ma r (fun _=>n) (fun i j=>((F i j:Nat):Int))):=hm;have K0:H (jI (w.alloc (J #[] 9)) w.1.size (Q w.1.size 0 I) 0 0 (bod n F (fun i p=>tat (S i) p) l)):=jIq w _;have k0:0<n:=by omega
 obtain⟨b0,g0,rfl,i1⟩:=h 0 k0;rw[Cp] at i1;have u1:=hS 0 k0;clear h hm;go_enter func163,ntmps163
 go_wp2
 go_loopw [5,6] (fun v i wr=>∃ k G c:Nat,k<=r/\i=Ao Ar (k:Int)/\v=V (Q G 0 I) k c/\jI wr w.1.size (Q G 0 I) k c (bod n F (fun i p=>tat (S i) p) l)/\Ab w.1.size w wr) (fun _ i _=>r-(intOf i).toNat)
 case atStart=>exact⟨0,_,_,Bi _,rfl,rfl,K0,(Az _ _).alloc (Ay _) _⟩
 case round=>
  obtain⟨k,G,c,hk,rfl,rfl,d0,a0⟩:=hrel;clear K0;by_cases hlt:k<r
  .have s2:(k:Int)<(r:Int):=by omega
   obtain⟨b1,f0,ai,ci,rfl,o0,g1⟩:=KM.rowE hlt;obtain⟨b2,c0,rfl,n1⟩:=g1.some k0;have m0:=(a0.cell (p:=Q b1 (f0+k) I) (A7 o0)).trans o0;have q0:=n1 0 k0;rw[Cp,JU _ _ _ k0] at q0;have p0:=(a0.cell (p:=Q b2 c0 I) (A7 q0)).trans q0;have n0:=(a0.cell (p:=Q b0 g0 I) (A7 i1)).trans i1;have KZ:H (∀ t,t<n->w.cell? (Q b2 (c0+t) I)=M (Ao Ar ((F k t:Nat):Int))):=fun t ht=>by rw[n1 t ht,JU _ _ _ ht]
   have HF:H (vX (S 0) ((F k 0:Nat):Int)=txt (rs (F k) (fun i p=>tat (S i) p) 1) l):=jFi (R:=F k) (T:=fun i p=>tat (S i) p) u1 (hF k 0) (fun _ _=>rfl);have h0:H (∀ w,CB 187 #[(S 0),Ao Ar ((F k 0:Nat):Int)] w (txt (rs (F k) (fun i p=>tat (S i) p) 1) l)):=fun w=>by rw[<-HF.out];exact jBb (S 0) _ w (by omega)
   have j1:=A7 n0;have k1:=A7 m0;have m1:=A7 p0;have KO:H (jI wr w.1.size (Q G 0 I) k c (bod n F (fun i p=>tat (S i) p) l)):=d0;have KB:H (Ab w.1.size w wr):=a0;have q1:H (w.cell? (Q b1 (f0+k) I)=M (V (Q b2 c0 I) n ci)):=o0;obtain⟨s0,t1⟩:∃ s0,S 0=s0:=⟨_,rfl⟩;obtain⟨x0,x1⟩:∃ x0,F k 0=x0:=⟨_,rfl⟩;rw[t1] at n0 h0;rw[x1] at p0 h0;clear g1 n1 q0 d0 a0 HF t1 x1 o0;go_wp2_with fail
   go_region_held3 (fun w'=>w'.cell? (Q b0 g0 I)=M (Ag s0)/\w'.cell? (Q b1 (f0+k) I)=M (V (Q b2 c0 I) n ci)/\w'.cell? (Q b2 c0 I)=M (Ao Ar (x0:Int))) (go_keep) ((go_at_call 187;refine Ax (h0 _) ?_;rintro e w5 ⟨rfl,j0⟩;have e0:=jC j0;clear j0;have r0:=(e0.cell (p:=Q b0 g0 I) j1).trans n0;have t0:=(e0.cell (p:=Q b1 (f0+k) I) k1).trans m0;have u0:=(e0.cell (p:=Q b2 c0 I) m1).trans p0))
   all_goals
    have KO5:H (jI w5 w.1.size (Q G 0 I) k c (bod n F (fun i p=>tat (S i) p) l)):=jI.below KO e0;have KB5:H (Ab w.1.size w w5):=jA KB e0;clear r0 t0 u0 n0 m0 p0 KO KB e0 h0;go_wp2
    go_loopw [7,8] (fun v i wr=>∃ q:Nat,1<=q/\q<=n/\i=Ao Ar (q:Int)/\v=Ag (txt (rs (F k) (fun i p=>tat (S i) p) q) l)/\jI wr w.1.size (Q G 0 I) k c (bod n F (fun i p=>tat (S i) p) l)/\Ab w.1.size w wr) (fun _ i _=>n-(intOf i).toNat)
    case atStart=>exact⟨1,Ay _,hn1,rfl,rfl,KO5,KB5⟩
    case round=>
     obtain⟨q,t2,hq,rfl,rfl,d0,a0⟩:=hrel;clear KO5 KB5;by_cases hqn:q<n
     .have k2:(q:Int)<(n:Int):=by omega
      obtain⟨b3,r2,eb,v0⟩:=KH q hqn;cases eb;have e1:=(a0.cell (p:=Q b0 (g0+q) I) (A7 v0)).trans v0;have m0:=(a0.cell (p:=Q b1 (f0+k) I) (A7 q1)).trans q1;have f1:=(a0.cell (p:=Q b2 (c0+q) I) (A7 (KZ q hqn))).trans (KZ q hqn);have HA:H (jL4 (txt (rs (F k) (fun i p=>tat (S i) p) q) l) (vX (S q) ((F k q:Nat):Int))=txt (rs (F k) (fun i p=>tat (S i) p) (q+1)) l):=jL5 (R:=F k) (T:=fun i p=>tat (S i) p) (hS q hqn) (hF k q) (fun _ _=>rfl);have v1:=hS q hqn;have h0:H (∀ w,CB 187 #[(S q),Ao Ar ((F k q:Nat):Int)] w (vX (S q) ((F k q:Nat):Int))):=fun w=>jBb (S q) _ w (by omega)
      have c1:H (∀ w,CB 188 #[(txt (rs (F k) (fun i p=>tat (S i) p) q) l),(vX (S q) ((F k q:Nat):Int))] w (txt (rs (F k) (fun i p=>tat (S i) p) (q+1)) l)):=fun w=>by rw[<-HA.out];exact jK1 _ _ w (by rw[zO];exact hl)
      have j1:=A7 e1;have k1:=A7 m0;have m1:=A7 f1;have KO:H (jI wr w.1.size (Q G 0 I) k c (bod n F (fun i p=>tat (S i) p) l)):=d0;have KB:H (Ab w.1.size w wr):=a0;generalize vX (S q) ((F k q:Nat):Int)=sq at h0 c1;obtain⟨tq,w1⟩:∃ tq,S q=tq:=⟨_,rfl⟩;obtain⟨xq,y1⟩:∃ xq,F k q=xq:=⟨_,rfl⟩;obtain⟨r1,w0⟩:∃ r1,txt (rs (F k) (fun i p=>tat (S i) p) q) l=r1:=⟨_,rfl⟩;obtain⟨p1,z0⟩:∃ p1,txt (rs (F k) (fun i p=>tat (S i) p) (q+1)) l=p1:=⟨_,rfl⟩;have KNX:H (txt (rs (F k) (fun i p=>tat (S i) p) (q+1)) l=p1):=z0;rw[w1] at e1 h0;rw[y1] at f1 h0;rw[w0,z0] at c1;rw[w0];clear d0 a0 HA w1 y1 z0 v0 v1 w0;go_wp2_with fail
      go_region_held3 (fun w'=>w'.cell? (Q b0 (g0+q) I)=M (Ag tq)/\w'.cell? (Q b1 (f0+k) I)=M (V (Q b2 c0 I) n ci)/\w'.cell? (Q b2 (c0+q) I)=M (Ao Ar (xq:Int))) (go_keep) ((first|(go_at_call 187;refine Ax (h0 _) ?_;rintro e w5 ⟨rfl,j0⟩;have e0:=jC j0;clear j0;have r0:=(e0.cell (p:=Q b0 (g0+q) I) j1).trans e1;have t0:=(e0.cell (p:=Q b1 (f0+k) I) k1).trans m0;have u0:=(e0.cell (p:=Q b2 (c0+q) I) m1).trans f1)|(guard_hyp e0;go_at_call 188;refine Ax (c1 _) ?_;rintro e w6 ⟨rfl,hb6⟩;have a2:=(hb6.cell (p:=Q b0 (g0+q) I) (A7 r0)).trans r0;have e2:=(hb6.cell (p:=Q b1 (f0+k) I) (A7 t0)).trans t0;have f2:=(hb6.cell (p:=Q b2 (c0+q) I) (A7 u0)).trans u0)))
      all_goals
       have HO:H (jI w6 w.1.size (Q G 0 I) k c (bod n F (fun i p=>tat (S i) p) l)):=jI.below (jI.below KO e0) hb6;have HB:H (Ab w.1.size w w6):=jA (jA KB e0) hb6;clear r0 t0 u0 a2 e2 f2 e1 m0 f1 KO KB e0 hb6 h0 c1;go_wp2
       go_roundw
       case rel=>exact⟨q+1,by omega,by omega,by go_num,by rw[KNX.out],HO.out,HB.out⟩
       case measure=>simp[intOf] <;> omega
     .obtain rfl:q=n:=by omega
      have k2:¬ (q:Int)<(q:Int):=by omega
      have m2:=a0.size;have i2:=(A0 d0 _ rfl).1;obtain⟨sv,o1⟩:∃ sv,txt (rs (F k) (fun i p=>tat (S i) p) q) l=sv:=⟨_,rfl⟩;have z1:H (sv=bod q F (fun i p=>tat (S i) p) l k):=o1.symm;rw[o1];clear o1;go_wp2_with (at_builtin;refine De _ rfl _ _ 27 rfl w.1.size 9 i0 Ap 1 16 C3 hi n2 o2 p2 rfl (by decide) (V (M ⟨G,0,I⟩) k c) k _ rfl (Cb d0 _) ⟨wr.1.size,0,I⟩ 1 1 [Ag sv] rfl rfl (Cf (cs:=#[Ag sv]) (t:=9) (fr:=(0,0)) (Cq wr _)) (by simp[Aq]) (by omega) (by unfold Au;omega) (by omega) (by simp;omega) (wr.1.size+1) (by simp) ?_;intro g2 cap3 w2 a1 y0 j2 s1)
      have HO:H (jI w2 w.1.size g2 (k+1) cap3 (bod q F (fun i p=>tat (S i) p) l)):=by
       show jI _ _ _ _ _ _;unfold jI;rw[QC,<-z1.out];exact a1
      have hb':Ab w.1.size w w2:=(a0.alloc m2 _).grown (show World.grownBy _ w2 (M G) from y0) (by simp;omega) (fun j hj=>by cases hj;exact i2);clear a1 y0 j2 s1 d0;go_roundw
      case rel=>exact⟨k+1,g2,cap3,by omega,by go_num,rfl,HO.out,hb'⟩
      case measure=>simp[intOf] <;> omega
  .obtain rfl:k=r:=by omega
   have HO:H _:=d0;clear d0;go_wp2
   go_ret
   exact⟨G,c,rfl,HO,a0⟩
end Go.Proofs.YtcaejlalnjnifaaGreat
