import Derived.Test.YtcaejlalnjnifaaGreatP15
import Derived.Test.YtcaejlalnjnifaaGreatP18
set_option maxHeartbeats 8000000
set_option maxRecDepth 2000
open Go.Value renaming slice->V,string->Ag,tuple->Ah,int->Ao
open Option renaming none->I,some->M
open Go.RowKit renaming Hid->H,Below->Ab
open Go.Addr renaming mk->Q
open Go.Obj renaming cells->J
open Go.Proofs.Tryz renaming prog->Ac
open Go renaming World->Ad,Value->Aj,Calls->Ak,Addr->Al,maxLen->Au
open Go.Ending renaming returned->Ae
open Go.IntKind renaming i64->Ar
open Bool renaming false->Av,true->Aw
open Go.Proofs.Tryz
open Go.ChangeShapes Go.WideShapes Go.ChangeAt Go.RowKit
namespace Go.Proofs.YtcaejlalnjnifaaGreat
open Go.ChangeShapes Go.WideShapes Go.ChangeAt Go.RowKit Go.Shelf
open Gt (nb hf nm pl pr jn)
theorem jDm {w W2 w9:Ad} {b0 B c c1:Nat} {v:Aj} {y z:BA} (c0:Ab b0 w W2) (a0:Ab W2 W2 w9) (r0:Row W2 b0 27 #[v]) (r1:Row W2 B 9 #[y]) (r2:Row W2 (B+1) 3 #[(c:Int)]) (hB:b0<B):H (Row (w9.setCell B z) (B+1) 3 #[(c:Int)]/\W2.1.size<=((w9.setCell B z).setCell (Q (B+1) 0 I) (c1:Int)).1.size/\(∀ j,B+2<=j->j<W2.1.size->((w9.setCell B z).setCell (Q (B+1) 0 I) (c1:Int)).1[j]?=W2.1[j]?)/\Ab b0 w ((w9.setCell B z).setCell (Q (B+1) 0 I) (c1:Int))/\Row ((w9.setCell B z).setCell (Q (B+1) 0 I) (c1:Int)) b0 27 #[v]/\Row ((w9.setCell B z).setCell (Q (B+1) 0 I) (c1:Int)) B 9 #[z]/\Row ((w9.setCell B z).setCell (Q (B+1) 0 I) (c1:Int)) (B+1) 3 #[(c1:Int)]):=by
 have s0:=r0.below a0 r0.lt;have s1:=r1.below a0 r1.lt;have s2:=r2.below a0 r2.lt;have t2:=s2.other (k:=B) 0 z (by omega);refine⟨t2,by simpa using a0.size,fun j h1 h2=>?_,?_,(s0.other 0 _ (by omega)).other 0 _ (by omega),(s1.set 0 z).other 0 _ (by omega),t2.set 0 (c1:Int)⟩
 .rw[Df _ _ _ _ (by simp;omega),Df _ _ _ _ (by simp;omega)];exact a0.block j h2
 .exact((c0.trans (a0.mono (Hc r0.lt))).setCell (by simp;omega) _).setCell (by simp;omega) _
theorem jDk (x:BA) (i n:Nat) (a:OA) (k cap:Nat) (S:Nat->BA) (w:Ad) (h:jK w a k S) (s0:inT (i:Int) (n:Int)=Aw) (hx:x.size=16) (hk:k=pl i n) (hS:∀ j,j<k->(S j).size=16):CB 204 #[x,(i:Int),(n:Int),V a k cap] w (Ah #[(pr x i n S 0),Aw]):=by
 have hi:i<n/\n<=64:=by simp[inT] at s0;omega
 have q1:k<=6:=by rw[hk];exact Gt.pl_le 6 _ _ (by omega)
 have b1:plI (i:Int) (n:Int)=(k:Int):=by unfold plI;rw[A6 s0,hk];simp
 obtain⟨w1,t0⟩:=nmH (w.alloc (J #[V a k cap] 27));have K1:H (Row w1 w 27 #[V a k cap]/\Ab w w w1):=by rw[t0.out];exact⟨Row.new w _ _,(Az _ _).alloc (Ay _) _⟩
 have KP:H (∀ w0,CB 215 #[(i:Int),(n:Int)] w0 (k:Int)):=fun w0=>by rw[<-b1];exact XS _ _ w0
 have KA:H (∀ W,Ab w w W->CS 216 #[V a k cap] W Aw):=fun W hb=>by
  rw[<-jCl hS];exact zE a k cap S W (h.below hb) (by omega) (fun i hi=>by rw[hS i hi];unfold Au;omega)
 have KC:H (∀ w0,CB 120 #[x] w0 x):=fun w0=>qN x w0 (by omega)
 have KH:H (jK w a k S):=h;have KS:H (∀ j,j<k->(S j).size=16):=hS;have Kk:H (k=pl i n):=hk;have hc:=K1.1.cell 0;have g0:=K1.1.lt;simp at hc;have v0:((x.size:Int) !=16)=Av:=by simp;omega
 have a1:((k:Int) !=(k:Int))=Av:=by simp
 have Hx:H (x.size=16):=hx;clear h hS hk b1 s0 hx;refine(Du (n:=2)).1 (callsIn_of_wp_marks func204 rfl trivial (wpIn_wide.2 ?_) rfl);simp only[ntmps204,E4,Fu,Gc,Nat.reduceAdd,Nat.reduceSub,Es,Et,Fm,E8,Em,Fc];go_wp2_with fail
 rw[<-t0.out];go_region_held3 (fun w'=>w'.cell? (Q w 0 I)=M (V a k cap)) (go_keep) ((first|(go_at_call 215;refine Ax (KP _) ?_;rintro e w5 ⟨rfl,p0⟩;have a0:=jC p0;clear p0;have i1:=(a0.cell (p:=Q w 0 I) g0).trans hc)|(guard_hyp a0;go_at_call 216;refine Ax (KA _ (K1.2.trans (a0.mono K1.2.size))) ?_;rintro e w6 ⟨rfl,hw6⟩;obtain rfl:=hw6.symm)))
 go_wp2_with fail
 refine(KC _).mono ?_;rintro e w7 ⟨rfl,o0⟩;have HB:H (Ab w w w7/\w.1.size<w7.1.size):=by
  have h1:=K1.2.trans (a0.mono K1.2.size);have h2:=h1.trans (o0.mono h1.size);refine⟨h2,?_⟩;have:=a0.size
  have:=o0.size
  omega
 have HR:H (Row w7 w 27 #[V a k cap]):=(K1.1.below a0 g0).below o0 (Br g0 a0.size);go_wp2
 obtain⟨B,hB⟩:∃ B,w7.1.size=B:=⟨_,rfl⟩;obtain⟨w8,u0⟩:=nmH ((w7.alloc (J #[x] 9)).alloc (J #[()] 3));have HN:H (Row w8 w 27 #[V a k cap]/\Row w8 B 9 #[x]/\Row w8 (B+1) 3 #[Ao Ar ((0:Nat):Int)]/\Ab w w w8/\w8.1.size=B+2/\w.1.size<B):=by
  rw[u0.out,<-hB];refine⟨(HR.alloc _).alloc _,(Row.new w7 _ _).alloc _,?_,(HB.1.alloc HB.1.size _).alloc (by have:=HB.1.size;simp;omega) _,by simp,HB.out.2⟩;have:=Row.new (w7.alloc (J #[x] 9)) #[Ao Ar ((0:Nat):Int)] 3
  rw[show (w7.alloc (J #[x] 9)).1.size=w7.1.size+1 by simp] at this;exact this
 rw[<-u0.out,hB];clear hB HB HR a0 o0 i1 hc g0 v0 a1;refine(wpIn_wide (n:=2)).1 ?_;refine zN (recv:=SpV (i:Int) (n:Int)) (gf:=217) rfl (enters_of func217 (by kernel_rfl) rfl) (jAy i n hi.1 hi.2) (fun _=>rfl)
  (fun s W=>Ab w w W/\Row W w 27 #[V a k cap]/\∃ (y:BA) (c:Nat),Row W B 9 #[y]/\Row W (B+1) 3 #[(c:Int)]/\y.size=16/\c+pl s.1 s.2=k/\pr y s.1 s.2 S c=pr x i n S 0) ?abide ?start ?round ?done
 case abide=>
  rintro s A A' j h1 h2 ⟨hb,m0,y,c,h0,n0,hy,hc,hp⟩ hg;have hn:=HN.2.2.2.2;exact⟨qE hb hg hb.size (by omega),m0.grown hg (by omega),y,c,h0.grown hg (by omega),n0.grown hg (by omega),hy,hc,hp⟩
 case start=>
  obtain⟨h1,h2,h3,h4,_,_⟩:=HN.out;exact⟨h4,h1,x,0,h2,h3,Hx,by rw[Gt.pl_nm,Bq];exact Kk.symm,by rw[Gt.pr_nm]⟩
 case round=>
  rintro l s W f0 ⟨hb,m0,y,c,h0,n0,hy,hc,hp⟩ g0;have m1:=Oper.semAt_some;have p1:=jEa;have o1:=JB;gi_wp2
  refine⟨Ga _ _,?_⟩;intro W2 j0 e1;have hn:=HN.2.2.2.2;have r0:=m0.grown j0 (by omega);have r1:=h0.grown j0 (by omega);have r2:=n0.grown j0 (by omega);have q0:=qE hb j0 hb.size (by omega);have c0:=r0.cell 0;have c1:=r1.cell 0;have c2:=r2.cell 0;simp at c0 c1 c2;have s1:=Tryz.mixed;have z0:c<k:=by
   have h1:=f0.1;rw[Gt.pl_yes s.1 (by omega) f0.2.1] at hc;omega
  have hC:H (c+1+pl (jNx s).1 (jNx s).2=k):=by
   have h1:=f0.1;rw[Gt.pl_yes s.1 (by omega) f0.2.1] at hc;show _=_;rw[Gt.pl_nm];omega
  have k1:(c:Int)<(k:Int):=by omega
  obtain⟨c1,i0⟩:∃ c1,c+1=c1:=⟨_,rfl⟩;have u1:IntKind.i64.wrap ((c:Int)+1)=(c1:Int):=by rw[A8];omega
  rw[i0] at hC;have t1:=f0.1;have n1:=KS c z0;obtain⟨b',off,rfl,y0⟩:=(KH.below q0) c z0;have x0:H (w8.1.size+2<W2.1.size):=by rw[e1];exact g0
  clear m0 h0 n0 j0 e1 hb hc;by_cases hev:s.1 % 2=0
  .have k0:((s.1:Nat):Int)<((nb s.1:Nat):Int):=by unfold nb;rw[A6 hev];omega
   have HJ:H (∀ w0,CB 218 #[y,(S c)] w0 (jn y (S c))):=fun w0=>jBq _ _ w0 (by omega) (by omega)
   have HP:H (pr (jn y (S c)) (jNx s).1 (jNx s).2 S c1=pr x i n S 0):=by
    show _=_;rw[Gt.pr_nm,<-hp,<-i0,Gt.pr_yes y s.1 S c (by omega) f0.2.1,A6 hev]
   have HZ:H ((jn y (S c)).size=16):=Gt.jn_size _ _;generalize jn y (S c)=z at HJ HP HZ;generalize S c=sc at HJ y0;generalize nb s.1=q at k0;generalize s.1=p at k0;clear hp hev i0;gi_wp2_with fail
   gi_region_with_o (gi_at_call 218;refine(Fi l (Du.2 (HJ _))).mono ?_;rintro e w9 ⟨rfl,b0⟩;have d0:=jC b0;clear b0;have g1:=(r1.below d0 r1.lt).cell 0;have f1:=(r1.below d0 r1.lt).free 0;simp at g1;have HW:=jDm (z:=z) (c1:=c1) q0 d0 r0 r1 r2 hn.2;have g2:=HW.1.cell 0;have f2:=HW.1.free 0;simp at g2)
   all_goals gi_wp2
   all_goals exact⟨HW.2.1,fun j h1 h2=>HW.2.2.1 j (by omega) (by have:=x0.out;omega),HW.out.2.2.2.1,HW.out.2.2.2.2.1,z,c1,HW.2.2.2.2.2.1,HW.2.2.2.2.2.2,HZ,hC,HP⟩
  .have k0:¬ ((s.1:Nat):Int)<((nb s.1:Nat):Int):=by unfold nb;rw[A5 hev];omega
   have HJ:H (∀ w0,CB 218 #[(S c),y] w0 (jn (S c) y)):=fun w0=>jBq _ _ w0 (by omega) (by omega)
   have HP:H (pr (jn (S c) y) (jNx s).1 (jNx s).2 S c1=pr x i n S 0):=by
    show _=_;rw[Gt.pr_nm,<-hp,<-i0,Gt.pr_yes y s.1 S c (by omega) f0.2.1,A5 hev]
   have HZ:H ((jn (S c) y).size=16):=Gt.jn_size _ _;generalize jn (S c) y=z at HJ HP HZ;generalize S c=sc at HJ y0;generalize nb s.1=q at k0;generalize s.1=p at k0;clear hp hev i0;gi_wp2_with fail
   gi_region_with_o (gi_at_call 218;refine(Fi l (Du.2 (HJ _))).mono ?_;rintro e w9 ⟨rfl,b0⟩;have d0:=jC b0;clear b0;have g1:=(r1.below d0 r1.lt).cell 0;have f1:=(r1.below d0 r1.lt).free 0;simp at g1;have HW:=jDm (z:=z) (c1:=c1) q0 d0 r0 r1 r2 hn.2;have g2:=HW.1.cell 0;have f2:=HW.1.free 0;simp at g2)
   all_goals gi_wp2
   all_goals exact⟨HW.2.1,fun j h1 h2=>HW.2.2.1 j (by omega) (by have:=x0.out;omega),HW.out.2.2.2.1,HW.out.2.2.2.2.1,z,c1,HW.2.2.2.2.2.1,HW.2.2.2.2.2.2,HZ,hC,HP⟩
 case done=>
  rintro s W hf ⟨hb,m0,y,c,h0,n0,hy,hc,hp⟩ hK;have e0:=h0.cell 0;simp at e0;have j1:H (y=pr x i n S 0):=by rw[Gt.pr_one _ _ _ _ hf] at hp;exact hp
  go_wp2
  refine⟨by simp,.inl ⟨_,_,rfl,run_takeDeferred hK,?_⟩⟩;exact⟨_,results_tmp2 rfl _ _ _,by rw[<-j1.out];rfl,qE hb (qQ _ _ _) hb.size (by have:=HN.out;omega)⟩
end Go.Proofs.YtcaejlalnjnifaaGreat
namespace Go.Proofs.YtcaejlalnjnifaaGreat
open Gt (nb hf nm pl pr jn)
theorem jAg {x:BA} {i n:Int} {k:Nat} {S:Nat->BA} (h:prB x i n k S=Aw):x.size=16/\(k:Int)=plI i n/\∀ j,j<k->(S j).size=16:=by
 unfold prB at h;simp only[Cr,Ed,jIi] at h;exact⟨h.1.1,h.1.2,h.2⟩
theorem jKg {i n:Int} (h:0<=plI i n):inT i n=Aw:=by
 unfold plI at h;by_cases e:inT i n=Aw
 .exact e
 .rw[A5 e] at h;omega
theorem jBz (x:BA) (i n:Int) (a:OA) (k cap:Nat) (S:Nat->BA) (w:Ad) (h:jK w a k S) (hk:k<=1048576) (hL:∀ i,i<k->(S i).size<=Au):CB 204 #[x,Ao Ar i,n,V a k cap] w (Ah #[(prS x i n k S),(prB x i n k S)]):=by
 unfold prS;cases hB:prB x i n k S with
 | false=>exact jDl x i n a k cap S w h hk hL hB
 | true=>
  obtain⟨h1,h2,h3⟩:=jAg hB;have a0:=jKg (i:=i) (n:=n) (by omega);obtain⟨i',rfl⟩:∃ i':Nat,i=(i':Int):=⟨i.toNat,by simp[inT] at a0;omega⟩;obtain⟨n',rfl⟩:∃ n':Nat,n=(n':Int):=⟨n.toNat,by simp[inT] at a0;omega⟩;exact jDk x i' n' a k cap S w h a0 h1 (by unfold plI at h2;rw[A6 a0] at h2;simp at h2;omega) h3
theorem jAs (x:BA) (i n:Int) (a:OA) (k cap:Nat) (S:Nat->BA) (w:Ad) (h:jK w a k S) (hk:k<=1048576) (hL:∀ i,i<k->(S i).size<=Au):CB 181 #[x,Ao Ar i,n,V a k cap] w (Ah #[(prS x i n k S),(prB x i n k S)]):=by
 have KP:H (∀ w0,CS 202 #[Ao Ar i,n] w0 (plI i n)):=fun w0=>jB5 i n w0
 have KV:H (CS 189 #[V a k cap] w (lvB k S)):=JZ a k cap S w h hk hL;unfold prS;obtain⟨r,hr⟩:∃ r,plI i n=r:=⟨_,rfl⟩;rw[hr] at KP;cases hB:prB x i n k S with
 | false=>
  have a0:=hB;unfold prB at a0;rw[hr] at a0;by_cases h0:r<0
  .clear a0 hr h;go_enter func181,ntmps181
   go_wp2_with (go_at_call 202;refine(KP _).mono ?_;rintro e w' ⟨rfl,hw⟩;obtain rfl:=hw.symm)
   go_ret2
   exact⟨rfl,Az _ _⟩
  .have i0:decide (r<0)=Av:=by simpa using h0
   by_cases h16:x.size=16
   .have d0:((x.size:Int) !=16)=Av:=by simp;omega
    by_cases hkr:(k:Int)=r
    .subst hkr;have f0:aS k S=Av:=by simpa [h16] using a0
     have t0:(0:Int)<(k:Int):=by
      by_cases e:k=0
      .subst e;simp[aS] at f0
      .omega
     have c0:lvB k S=Av:=by unfold lvB;rw[f0];rfl
     rw[c0] at KV;have m0:((k:Int) !=(k:Int))=Av:=by simp
     clear a0 hr h c0 f0 h16 h0 hB;go_enter func181,ntmps181
     go_wp2_with (first|(go_at_call 202;refine(KP _).mono ?_;rintro e w' ⟨rfl,hw⟩;obtain rfl:=hw.symm)|(go_at_call 189;refine KV.mono ?_;rintro e w' ⟨rfl,hw⟩;obtain rfl:=hw.symm))
     go_ret2
     exact⟨rfl,Az _ _⟩
    .have v0:((k:Int) !=r)=Aw:=by simp;exact hkr
     clear a0 hr h hkr h16 h0 hB;go_enter func181,ntmps181
     go_wp2_with (go_at_call 202;refine(KP _).mono ?_;rintro e w' ⟨rfl,hw⟩;obtain rfl:=hw.symm)
     go_ret2
     exact⟨rfl,Az _ _⟩
   .have d0:((x.size:Int) !=16)=Aw:=by simp;omega
    clear a0 hr h h16 h0 hB;go_enter func181,ntmps181
    go_wp2_with (go_at_call 202;refine(KP _).mono ?_;rintro e w' ⟨rfl,hw⟩;obtain rfl:=hw.symm)
    go_ret2
    exact⟨rfl,Az _ _⟩
 | true=>
  obtain⟨h1,h2,h3⟩:=jAg hB;have e0:=jKg (i:=i) (n:=n) (by omega);obtain⟨i',rfl⟩:∃ i':Nat,i=(i':Int):=⟨i.toNat,by simp[inT] at e0;omega⟩;obtain⟨n',rfl⟩:∃ n':Nat,n=(n':Int):=⟨n.toNat,by simp[inT] at e0;omega⟩;have hin2:i'<n'/\n'<=64:=by simp[inT] at e0;omega
  have hkp:H (k=pl i' n'):=by show _=_;unfold plI at h2;rw[A6 e0] at h2;simp at h2;omega
  have x0:k<=6:=by rw[hkp.out];exact Gt.pl_le 6 _ _ (by omega)
  rw[hr] at h2;subst h2;have c0:0<k->lvB k S=Aw:=fun h0=>by unfold lvB;rw[jCl h3,QK (by omega)];rfl
  have d0:((x.size:Int) !=16)=Av:=by simp;omega
  have m0:((k:Int) !=(k:Int))=Av:=by simp
  have i0:decide ((k:Int)<0)=Av:=by simp
  have K3:H (∀ j,j<k->(S j).size=16):=h3;have KH:H (jK w a k S):=h;have Hx:H (x.size=16):=h1;rw[A6 rfl];simp only[Cz];clear hB hr e0 h h1 h3 hL hk;have o0:∀ (Z:BA),Z=pr x i' n' S 0->CB 181 #[x,(i':Int),(n':Int),V a k cap] w (Ah #[Z,Aw]):=by
   intro Z hZ;have HZ:H (Z=pr x i' n' S 0):=hZ;clear hZ;go_enter func181,ntmps181
   by_cases t0:(0:Int)<(k:Int)
   have p0:H (CS 189 #[V a k cap] w Aw):=by
    have:=KV.out
    rw[c0 (by omega)] at this;exact this
   clear KV c0;go_wp2_with (first|(go_at_call 202;refine(KP _).mono ?_;rintro e w' ⟨rfl,hw⟩;obtain rfl:=hw.symm)|(go_at_call 189;refine p0.mono ?_;rintro e w' ⟨rfl,hw⟩;obtain rfl:=hw.symm))
   rotate_left;clear KV c0;go_wp2_with (go_at_call 202;refine(KP _).mono ?_;rintro e w' ⟨rfl,hw⟩;obtain rfl:=hw.symm)
   rotate_left;all_goals
    go_loopw [0,1,2,11] (fun vx vi vn vc wr=>∃ (y:BA) (p s c:Nat),p<s/\s<=64/\y.size=16/\H (c+pl p s=k)/\H (pr y p s S c=Z)/\vx=Ag y/\vi=Ao Ar (p:Int)/\vn=Ao Ar (s:Int)/\vc=Ao Ar (c:Int)/\Ab w w wr) (fun _ _ vn _ _=>(intOf vn).toNat)
    case atStart=>exact⟨x,i',n',0,hin2.1,hin2.2,Hx,by show 0+_=_;rw[Bq];exact hkp.symm,HZ.symm,rfl,rfl,rfl,rfl,Az _ _⟩
    case round=>
     obtain⟨y,p,s,c,hp,hs,hy,HC,HP,rfl,rfl,rfl,rfl,hbel⟩:=hrel;clear d0 m0 i0;by_cases h1:s<=1
     .have q0:¬ (1:Int)<(s:Int):=by omega
      have HE:H (y=Z):=by have:=HP.out;rw[Gt.pr_one _ _ _ _ h1] at this;exact this
      go_wp2
      go_ret2
      exact⟨by rw[<-HE.out];rfl,hbel⟩
     .have q0:(1:Int)<(s:Int):=by omega
      obtain⟨u1,u2,u3,u4,u5,u6,u7,u8,u9⟩:=jFj p s hp hs;have b0:p / 2<hf s/\hf s<s:=by unfold hf;omega
      by_cases hb:nb p<s
      .have HC2:H (c+1+pl (p / 2) (hf s)=k):=by have:=HC.out;rw[Gt.pl_yes p h1 hb] at this;show _=_;omega
       have j0:c<k:=by have:=HC2.out;omega
       have u0:(c:Int)<(k:Int):=by omega
       have g0:((nb p:Nat):Int)<(s:Int):=by omega
       have n0:=K3 c j0;obtain⟨b',off,rfl,s0⟩:=(KH.below hbel) c j0;by_cases hev:p % 2=0
       have k0:((p:Int) % 2==0)=Aw:=by simp;omega
       have HJ:H (∀ w0,CB 203 #[y,(S c)] w0 (jn y (S c))):=fun w0=>jAm _ _ w0 (by omega) (by omega)
       have HP2:H (pr (jn y (S c)) (p / 2) (hf s) S (c+1)=Z):=by
        show _=_;rw[<-HP.out,Gt.pr_yes y p S c h1 hb,A6 hev]
       have HZ2:H ((jn y (S c)).size=16):=Gt.jn_size _ _;generalize jn y (S c)=z at HJ HP2 HZ2;rotate_left;have k0:((p:Int) % 2==0)=Av:=by simp;omega
       have HJ:H (∀ w0,CB 203 #[(S c),y] w0 (jn (S c) y)):=fun w0=>jAm _ _ w0 (by omega) (by omega)
       have HP2:H (pr (jn (S c) y) (p / 2) (hf s) S (c+1)=Z):=by
        show _=_;rw[<-HP.out,Gt.pr_yes y p S c h1 hb,A5 hev]
       have HZ2:H ((jn (S c) y).size=16):=Gt.jn_size _ _;generalize jn (S c) y=z at HJ HP2 HZ2;rotate_left;all_goals
        generalize S c=sc at HJ s0;generalize nb p=q at u4 g0;generalize p / 2=p' at u5 u6 b0 HC2 HP2;generalize hf s=s' at u8 u9 b0 HC2 HP2;clear hev hb HP HC n0;go_wp2_with fail
        refine(HJ _).mono ?_;rintro e w9 ⟨rfl,r0⟩;have hbw:=hbel.trans (r0.mono hbel.size);go_wp2
        go_roundw
        case rel=>exact⟨z,p',s',c+1,by omega,by omega,HZ2.out,HC2,HP2,rfl,rfl,rfl,by go_num,hbw⟩
        case measure=>simp[intOf];omega
      .have HC2:H (c+pl (p / 2) (hf s)=k):=by have:=HC.out;rw[Gt.pl_no p h1 hb] at this;exact this
       have HP2:H (pr y (p / 2) (hf s) S c=Z):=by have:=HP.out;rw[Gt.pr_no y p S c h1 hb] at this;exact this
       have g0:¬ ((nb p:Nat):Int)<(s:Int):=by omega
       generalize nb p=q at u4 g0;generalize p / 2=p' at u5 u6 b0 HC2 HP2;generalize hf s=s' at u8 u9 b0 HC2 HP2;clear hb HP HC;go_wp2
       go_roundw
       case rel=>exact⟨y,p',s',c,by omega,by omega,hy,HC2,HP2,rfl,rfl,rfl,rfl,hbel⟩
       case measure=>simp[intOf];omega
  exact o0 _ rfl
end Go.Proofs.YtcaejlalnjnifaaGreat
namespace Go.Proofs.YtcaejlalnjnifaaGreat
def pvB (r x:BA) (i n:Int) (k:Nat) (S:Nat->BA):Bool:=prB x i n k S&&decide (prS x i n k S=r)
theorem jHq (r x:BA) (i n:Int) (a:OA) (k cap:Nat) (S:Nat->BA) (w:Ad) (h:jK w a k S) (hk:k<=1048576) (hL:∀ i,i<k->(S i).size<=Au):CB 183 #[r,x,Ao Ar i,n,V a k cap] w (pvB r x i n k S):=by
 have KP:=hd (jBz x i n a k cap S w h hk hL);unfold pvB;generalize prS x i n k S=z at KP;generalize prB x i n k S=d at KP;cases d with
 | false=>
  go_enter func183,ntmps183
  go_wp2_with fail
  refine KP.mono ?_;rintro e w1 ⟨rfl,hb⟩;go_wp2
  go_ret
  exact⟨rfl,hb⟩
 | true=>
  by_cases hz:z=r
  .subst hz;have hq:=vC z;go_enter func183,ntmps183
   go_wp2_with fail
   refine KP.mono ?_;rintro e w1 ⟨rfl,hb⟩;go_wp2
   go_ret
   exact⟨by simp,hb⟩
  .have hq:=jEe hz;have HZ:H (decide (z=r)=Av):=by show _=_;simpa using hz
   go_enter func183,ntmps183
   go_wp2_with fail
   refine KP.mono ?_;rintro e w1 ⟨rfl,hb⟩;go_wp2
   go_ret
   exact⟨by rw[HZ.out];rfl,hb⟩
theorem jE8 (r x:BA) (i n:Int) (a:OA) (k cap:Nat) (S:Nat->BA) (w:Ad) (h:jK w a k S) (hk:k<=1048576) (hL:∀ i,i<k->(S i).size<=Au):CB 156 #[r,x,Ao Ar i,n,V a k cap] w (pvB r x i n k S):=by
 have KP:=hd (jAs x i n a k cap S w h hk hL);unfold pvB;generalize prS x i n k S=z at KP;generalize prB x i n k S=d at KP;cases d with
 | false=>
  go_enter func156,ntmps156
  go_wp2_with fail
  refine KP.mono ?_;rintro e w1 ⟨rfl,hb⟩;go_wp2
  go_ret
  exact⟨rfl,hb⟩
 | true=>
  by_cases hz:z=r
  .subst hz;have hq:=vC z;go_enter func156,ntmps156
   go_wp2_with fail
   refine KP.mono ?_;rintro e w1 ⟨rfl,hb⟩;go_wp2
   go_ret
   exact⟨by simp,hb⟩
  .have hq:=jEe hz;have HZ:H (decide (z=r)=Av):=by show _=_;simpa using hz
   go_enter func156,ntmps156
   go_wp2_with fail
   refine KP.mono ?_;rintro e w1 ⟨rfl,hb⟩;go_wp2
   go_ret
   exact⟨by rw[HZ.out];rfl,hb⟩
def kOk (k n:Int) (b:BA):Prop:=1<=k/\k<=n/\n<=16/\1<=b.size/\b.size<=2002
instance (k n:Int) (b:BA):Decidable (kOk k n b):=by unfold kOk;exact inferInstance
noncomputable def okP (r:BA) (k n i:Int) (b:BA) (m:Nat) (S:Nat->BA):Bool:=if kOk k n b then pvB r (plf k n i b) i n m S else Av
theorem jAa {r:BA} {k n i:Int} {b:BA} {m:Nat} {S:Nat->BA} (h:¬ kOk k n b):okP r k n i b m S=Av:=A5 h
theorem jJ3 {r:BA} {k n i:Int} {b:BA} {m:Nat} {S:Nat->BA} (h:kOk k n b):okP r k n i b m S=pvB r (plf k n i b) i n m S:=A6 h
theorem jPx {r x:BA} {i n:Int} {m:Nat} {S:Nat->BA} (h:¬ (0<=i/\i<=n-1)):pvB r x i n m S=Av:=by
 unfold pvB;cases hB:prB x i n m S with
 | false=>rfl
 | true=>
  obtain⟨_,h2,_⟩:=jAg hB;have:=jKg (i:=i) (n:=n) (by omega)
  simp[inT] at this;omega
theorem jM9 {k n:Int} (h1:1<=k) (h2:k<=n) (h3:n<=16):qU k n=Aw:=by unfold qU jAl;simp;omega
theorem jEy (r:ByteArray) (k n i:Int) (b:ByteArray) (a:Option Al) (m cap:Nat) (S:Nat->ByteArray) (w:Ad) (h:jK w a m S) (hm:m<=1048576) (hL:∀ i,i<m->(S i).size<=Au):Ak Ac 159 #[pcV r k n i b (V a m cap)] w fun e w'=>e=Ae (.bool (okP r k n i b m S))/\Ab w.1.size w w':=by
 obtain⟨sz,g0⟩:∃ sz,b.size=sz:=⟨_,rfl⟩;have c0:Ab w.1.size w (w.alloc (J (pcC r k n i b (V a m cap)) 29)):=(Az _ _).alloc (Ay _) _;have d0:=hd c0;by_cases c1:k<1
 .rw[jAa (by unfold kOk;omega)];clear h hL c0;go_enter Tryz.func159,Tryz.ntmps159
  go_wp2
  go_ret
  exact⟨rfl,d0.out⟩
 by_cases c2:n<k
 .rw[jAa (by unfold kOk;omega)];clear h hL c0;go_enter Tryz.func159,Tryz.ntmps159
  go_wp2
  go_ret
  exact⟨rfl,d0.out⟩
 by_cases c3:16<n
 .rw[jAa (by unfold kOk;omega)];clear h hL c0;go_enter Tryz.func159,Tryz.ntmps159
  go_wp2
  go_ret
  exact⟨rfl,d0.out⟩
 by_cases c4:(sz:Int)<1
 .rw[jAa (by unfold kOk;omega)];clear h hL c0;go_enter Tryz.func159,Tryz.ntmps159
  go_wp2
  go_ret
  exact⟨rfl,d0.out⟩
 by_cases c5:2002<(sz:Int)
 .rw[jAa (by unfold kOk;omega)];clear h hL c0;go_enter Tryz.func159,Tryz.ntmps159
  go_wp2
  go_ret
  exact⟨rfl,d0.out⟩
 rw[jJ3 (by unfold kOk;omega)];obtain⟨w0,f0⟩:=nmH (w.alloc (J (pcC r k n i b (V a m cap)) 29));obtain⟨B,HB⟩:=nmH w.1.size;rw[<-f0.out] at d0 c0;have HR:=jZ f0 HB;have KL:H (∀ W,Ak Ac 184 #[Ao Ar k,Ao Ar n,Ao Ar i,Ag b] W fun e w'=>e=Ae (Ag (plf k n i b))/\Ab W.1.size W w'):=fun W=>QR k n i b W (by omega)
 have KP:H (∀ W,Ab w0.1.size w0 W->Ak Ac 183 #[Ag r,Ag (plf k n i b),Ao Ar i,Ao Ar n,V a m cap] W fun e w'=>e=Ae (.bool (pvB r (plf k n i b) i n m S))/\Ab W.1.size W w'):=fun W hW=>jHq r (plf k n i b) i n a m cap S W ((h.below c0).below hW) hm hL
 generalize plf k n i b=x at KL KP |-;generalize pvB r x i n m S=ans at KP |-;have q0:=HR.out.cell 0;have q1:=HR.out.cell 1;have q2:=HR.out.cell 2;have q3:=HR.out.cell 3;have q4:=HR.out.cell 4;have q5:=HR.out.cell 5;have lB:=HR.out.lt;simp at q0 q1 q2 q3 q4 q5;clear h hL c0;go_enter Tryz.func159,Tryz.ntmps159
 go_wp2_with fail
 rw[<-f0.out,<-HB.out];go_region_held3 (fun w'=>w'.cell? ⟨B,0,I⟩=M (Ag r)/\w'.cell? ⟨B,1,I⟩=M (Ao Ar k)/\w'.cell? ⟨B,2,I⟩=M (Ao Ar n)/\w'.cell? ⟨B,3,I⟩=M (Ao Ar i)/\w'.cell? ⟨B,4,I⟩=M (Ag b)/\w'.cell? ⟨B,5,I⟩=M (V a m cap)) (go_keep) ((first|(go_at_call 184;refine Ax (KL.out _) ?_;rintro e w5 ⟨rfl,e0⟩;have a0:=jC e0;clear e0;have p0:=(a0.cell (p:=⟨B,0,I⟩) lB).trans q0;have p1:=(a0.cell (p:=⟨B,1,I⟩) lB).trans q1;have p2:=(a0.cell (p:=⟨B,2,I⟩) lB).trans q2;have p3:=(a0.cell (p:=⟨B,3,I⟩) lB).trans q3;have p4:=(a0.cell (p:=⟨B,4,I⟩) lB).trans q4;have p5:=(a0.cell (p:=⟨B,5,I⟩) lB).trans q5)|(guard_hyp a0;go_at_call 183;refine Ax (KP.out _ a0) ?_;rintro e w6 ⟨rfl,hb6⟩;have b0:=jA a0 hb6;have u0:=(b0.cell (p:=⟨B,0,I⟩) lB).trans q0;have u1:=(b0.cell (p:=⟨B,1,I⟩) lB).trans q1;have u2:=(b0.cell (p:=⟨B,2,I⟩) lB).trans q2;have u3:=(b0.cell (p:=⟨B,3,I⟩) lB).trans q3;have u4:=(b0.cell (p:=⟨B,4,I⟩) lB).trans q4;have u5:=(b0.cell (p:=⟨B,5,I⟩) lB).trans q5)))
 all_goals
  go_wp2
  go_ret
  exact⟨rfl,d0.out.trans ((jA a0 hb6).mono d0.out.size)⟩
theorem jDs (r:ByteArray) (k n i:Int) (b:ByteArray) (a:Option Al) (m cap:Nat) (S:Nat->ByteArray) (w:Ad) (h:jK w a m S) (hm:m<=1048576) (hL:∀ i,i<m->(S i).size<=Au):Ak Ac 114 #[pcV r k n i b (V a m cap)] w fun e w'=>e=Ae (.bool (okP r k n i b m S))/\Ab w.1.size w w':=by
 obtain⟨sz,j0⟩:∃ sz,b.size=sz:=⟨_,rfl⟩;have c0:Ab w.1.size w (w.alloc (J (pcC r k n i b (V a m cap)) 29)):=(Az _ _).alloc (Ay _) _;have d0:=hd c0;have KO:H (∀ W,Ak Ac 155 #[Ao Ar k,Ao Ar n] W fun e w'=>e=Ae (.bool (qU k n))/\w'=W):=fun W=>jB2 k n W
 have KI:H (∀ x y z W,Ak Ac 43 #[Ao Ar x,Ao Ar y,Ao Ar z] W fun e w'=>e=Ae (.bool (inB x y z))/\w'=W):=fun x y z W=>jM x y z W
 cases c1:qU k n with
 | false=>
  rw[jAa (by unfold kOk;intro hk;rw[jM9 hk.1 hk.2.1 hk.2.2.1] at c1;cases c1)];rw[c1] at KO;clear h hL c0;go_enter Tryz.func114,Tryz.ntmps114
  go_wp2_with (go_at_call 155;refine(KO.out _).mono ?_;rintro e w' ⟨rfl,hw⟩;obtain rfl:=hw.symm)
  go_ret
  exact⟨rfl,d0.out⟩
 | true=>
 rw[c1] at KO;obtain⟨k1,k2,k3⟩:=zK c1;have k0:IntKind.i64.wrap (n-1)=n-1:=by rw[A8];omega
 cases c2:inB i 0 (n-1) with
 | false=>
  rw[show okP r k n i b m S=Av by unfold okP;rw[jPx (by simp[inB] at c2;omega)];simp];have e0:H (∀ W,Ak Ac 43 #[Ao Ar i,Ao Ar 0,Ao Ar (n-1)] W fun e w'=>e=Ae (.bool Av)/\w'=W):=fun W=>by have:=KI.out i 0 (n-1) W;rw[c2] at this;exact this
  clear h hL c0 k1 k2 k3;go_enter Tryz.func114,Tryz.ntmps114
  go_wp2_with (first|(go_at_call 155;refine(KO.out _).mono ?_;rintro e w' ⟨rfl,hw⟩;obtain rfl:=hw.symm)|(go_at_call 43;refine(e0.out _).mono ?_;rintro e w' ⟨rfl,hw⟩;obtain rfl:=hw.symm))
  go_ret
  exact⟨rfl,d0.out⟩
 | true=>
 have e0:H (∀ W,Ak Ac 43 #[Ao Ar i,Ao Ar 0,Ao Ar (n-1)] W fun e w'=>e=Ae (.bool Aw)/\w'=W):=fun W=>by have:=KI.out i 0 (n-1) W;rw[c2] at this;exact this
 cases c3:inB (sz:Int) 1 2002 with
 | false=>
  rw[jAa (by unfold kOk;simp[inB] at c3;omega)];have h0:H (∀ W,Ak Ac 43 #[Ao Ar (sz:Int),Ao Ar 1,Ao Ar 2002] W fun e w'=>e=Ae (.bool Av)/\w'=W):=fun W=>by have:=KI.out (sz:Int) 1 2002 W;rw[c3] at this;exact this
  clear h hL c0 k1 k2 k3;go_enter Tryz.func114,Tryz.ntmps114
  go_wp2_with fail
  refine(KO.out _).mono ?_;rintro e w' ⟨rfl,hw⟩;obtain rfl:=hw.symm;clear hw;go_wp2_with fail
  refine(e0.out _).mono ?_;rintro e w' ⟨rfl,hw⟩;obtain rfl:=hw.symm;clear hw;go_wp2_with fail
  refine(h0.out _).mono ?_;rintro e w' ⟨rfl,hw⟩;obtain rfl:=hw.symm;clear hw;go_wp2
  go_ret
  exact⟨rfl,d0.out⟩
 | true=>
 have h0:H (∀ W,Ak Ac 43 #[Ao Ar (sz:Int),Ao Ar 1,Ao Ar 2002] W fun e w'=>e=Ae (.bool Aw)/\w'=W):=fun W=>by have:=KI.out (sz:Int) 1 2002 W;rw[c3] at this;exact this
 have i0:1<=sz/\sz<=2002:=by simp[inB] at c3;omega
 rw[jJ3 (by unfold kOk;omega)];obtain⟨w0,g0⟩:=nmH (w.alloc (J (pcC r k n i b (V a m cap)) 29));obtain⟨B,HB⟩:=nmH w.1.size;rw[<-g0.out] at d0 c0;have HR:=jZ g0 HB;have KL:H (∀ W,Ak Ac 157 #[Ao Ar k,Ao Ar n,Ao Ar i,Ag b] W fun e w'=>e=Ae (Ag (plf k n i b))/\Ab W.1.size W w'):=fun W=>JN k n i b W (by omega)
 have KP:H (∀ W,Ab w0.1.size w0 W->Ak Ac 156 #[Ag r,Ag (plf k n i b),Ao Ar i,Ao Ar n,V a m cap] W fun e w'=>e=Ae (.bool (pvB r (plf k n i b) i n m S))/\Ab W.1.size W w'):=fun W hW=>jE8 r (plf k n i b) i n a m cap S W ((h.below c0).below hW) hm hL
 generalize plf k n i b=x at KL KP |-;generalize pvB r x i n m S=ans at KP |-;have q0:=HR.out.cell 0;have q1:=HR.out.cell 1;have q2:=HR.out.cell 2;have q3:=HR.out.cell 3;have q4:=HR.out.cell 4;have q5:=HR.out.cell 5;have lB:=HR.out.lt;simp at q0 q1 q2 q3 q4 q5;clear h hL c0 k1 k2 k3 i0 KI;go_enter Tryz.func114,Tryz.ntmps114
 go_wp2_with fail
 refine(KO.out _).mono ?_;rintro e w' ⟨rfl,hw⟩;obtain rfl:=hw.symm;clear hw;go_wp2_with fail
 refine(e0.out _).mono ?_;rintro e w' ⟨rfl,hw⟩;obtain rfl:=hw.symm;clear hw;go_wp2_with fail
 refine(h0.out _).mono ?_;rintro e w' ⟨rfl,hw⟩;obtain rfl:=hw.symm;clear hw;go_wp2_with fail
 rw[<-g0.out,<-HB.out];go_region_held3 (fun w'=>w'.cell? ⟨B,0,I⟩=M (Ag r)/\w'.cell? ⟨B,1,I⟩=M (Ao Ar k)/\w'.cell? ⟨B,2,I⟩=M (Ao Ar n)/\w'.cell? ⟨B,3,I⟩=M (Ao Ar i)/\w'.cell? ⟨B,4,I⟩=M (Ag b)/\w'.cell? ⟨B,5,I⟩=M (V a m cap)) (go_keep) ((first|(go_at_call 157;refine Ax (KL.out _) ?_;rintro e w5 ⟨rfl,f0⟩;have a0:=jC f0;clear f0;have p0:=(a0.cell (p:=⟨B,0,I⟩) lB).trans q0;have p1:=(a0.cell (p:=⟨B,1,I⟩) lB).trans q1;have p2:=(a0.cell (p:=⟨B,2,I⟩) lB).trans q2;have p3:=(a0.cell (p:=⟨B,3,I⟩) lB).trans q3;have p4:=(a0.cell (p:=⟨B,4,I⟩) lB).trans q4;have p5:=(a0.cell (p:=⟨B,5,I⟩) lB).trans q5)|(guard_hyp a0;go_at_call 156;refine Ax (KP.out _ a0) ?_;rintro e w6 ⟨rfl,hb6⟩;have b0:=jA a0 hb6;have u0:=(b0.cell (p:=⟨B,0,I⟩) lB).trans q0;have u1:=(b0.cell (p:=⟨B,1,I⟩) lB).trans q1;have u2:=(b0.cell (p:=⟨B,2,I⟩) lB).trans q2;have u3:=(b0.cell (p:=⟨B,3,I⟩) lB).trans q3;have u4:=(b0.cell (p:=⟨B,4,I⟩) lB).trans q4;have u5:=(b0.cell (p:=⟨B,5,I⟩) lB).trans q5)))
 all_goals
  go_wp2
  go_ret
  exact⟨rfl,d0.out.trans ((jA a0 hb6).mono d0.out.size)⟩
end Go.Proofs.YtcaejlalnjnifaaGreat
