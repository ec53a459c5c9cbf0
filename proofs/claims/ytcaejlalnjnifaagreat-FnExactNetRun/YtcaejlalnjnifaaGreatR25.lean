import Derived.Test.YtcaejlalnjnifaaGreatR20
import Derived.Test.YtcaejlalnjnifaaGreatR22
import Derived.Test.YtcaejlalnjnifaaGreatR21
import Derived.WideKeyEntry
set_option maxHeartbeats 8000000
set_option maxRecDepth 2000
open Go.Value renaming slice->V,pointer->Af,string->Ag,tuple->Ah,agg->Ai,int->Ao,oneCell'->Aq
open Option renaming none->I,some->M
open Go.RowKit renaming Hid->H,Below->Ab
open Go.Addr renaming mk->Q
open Go renaming undef->O,World->Ad,Value->Aj,Calls->Ak,maxLen->Au
open Go.Obj renaming cells->J
open Go.Ending renaming returned->Ae
open ByteArray renaming empty->Ap
open Go.IntKind renaming i64->Ar
open Bool renaming false->Av,true->Aw
open Go.Proofs.Tryz
open Go.ChangeShapes Go.WideShapes Go.ChangeAt Go.RowKit
namespace Go.Proofs.YtcaejlalnjnifaaGreat
section
open Go.ChangeShapes Go.WideShapes Go.ChangeAt Go.RowKit Go.Sort
def mkX (o:Nat) (s:Sl):Sl:=⟨vT o,⟨vT (o+1),((o+2:Nat):Int),((o+3:Nat):Int),((o+4:Nat):Int),vT (o+5),s.p.m,fun j=>vT (o+6+j)⟩,(((o+6+s.p.m:Nat):Int) % 3==0),(((o+7+s.p.m:Nat):Int) % 3==0),(((o+8+s.p.m:Nat):Int) % 3==0),(((o+9+s.p.m:Nat):Int) % 3==0),jW (o+10+s.p.m) s.ze.length,jW (o+10+s.p.m+s.ze.length) s.zr.length⟩
def mkL (k:Nat) (S:Nat->Sl) (i:Nat):Sl:=mkX (k+tot (fun i=>wkS (S i)) i) (S i)
theorem jDe (B g n cap:Nat) (F:Nat->Prop) (S:Nat->Sl) (k:Nat) (w:Ad) (h:Ow w B (qH n S) (V g n cap) F) (hn:n<=1048576) (hm:∀ i,i<n->SlS (S i)) (hk:k+tot (fun i=>wkS (S i)) n<=400000000):Ak prog 148 #[V g n cap,(k:Int)] w fun e w'=>e=Ae (Ao Ar ((k+tot (fun i=>wkS (S i)) n:Nat):Int))/\Ow w' B (qH n (mkL k S)) (V g n cap) F/\Trn w w' F:=by
 obtain⟨G,c1,k7⟩:=Ow.mk h;have KS:=hd c1;have HG:=hd (c1.head _ rfl);have K0:=hd (k7.congr (fun i q _ _=>rfl));have HM:Hid (∀ i,i<n->SlS (S i)):=hm;have HK:=hd hk;go_enter func148,ntmps148
 go_wp2
 go_loopw [1,5] (fun vk vi wr=>∃ (c x:Nat) (S':Nat->Sl),c<=n/\vk=Ao Ar (x:Int)/\vi=Ao Ar (c:Int)/\Hid (x=k+tot (fun i=>wkS (S i)) c/\(∀ i,S' i=if i<c then mkL k S i else S i)/\MkS wr B 42 13 g n cap G (fun i=>slD (S' i))/\Trn w wr F)) (fun _ vi _=>n-(intOf vi).toNat)
 case atStart=>exact⟨0,k,S,Bi _,rfl,rfl,rfl,fun i=>by simp,K0,Trn.refl _ _⟩
 case round=>
  obtain⟨c,o0,S',m7,rfl,rfl,KO⟩:=hrel;by_cases hlt:c<n
  .have l6:(c:Int)<(n:Int):=by omega
   have hS:S' c=S c:=by rw[KO.out.2.1 c,A5 (Fo _)]
   have a8:=HM c hlt;have ho:o0+wkS (S c)<=400000000:=by
    have h1:=KO.1;have h2:=XD (g:=fun i=>wkS (S i)) hlt;have h3:=HK.out;omega
   obtain⟨m,a5⟩:=nnH ((S c).p.m);obtain⟨le,a2⟩:=nnH ((S c).ze.length);obtain⟨lr,a9⟩:=nnH ((S c).zr.length);have k3:Hid (o0+10+m+le+lr=k+tot (fun i=>wkS (S i)) (c+1)):=by
    show _=k+(tot (fun i=>wkS (S i)) c+wkS (S c));have:=KO.1
    unfold wkS;rw[a5.out,a2.out,a9.out];unfold wkS at this;omega
   unfold wkS at ho;unfold SlS at a8;rw[a5.out,a2.out,a9.out] at ho a8;obtain⟨o1,O⟩:=nmH (o0+1);obtain⟨o2,L⟩:=nmH (o1+1);obtain⟨o3,X⟩:=nmH (o2+1);obtain⟨o4,M⟩:=nmH (o3+1);obtain⟨o5,J⟩:=nmH (o4+1);obtain⟨o6,K⟩:=nmH (o5+1);obtain⟨o7,H⟩:=nnH (o6+m);obtain⟨o8,Z⟩:=nmH (o7+1);obtain⟨o9,R⟩:=nmH (o8+1);obtain⟨a1,C⟩:=nmH (o9+1);obtain⟨a0,A⟩:=nmH (a1+1);obtain⟨a4,u⟩:=nnH (a0+le);obtain⟨o13,D⟩:=nnH (a4+lr);have e1:(o0:Int)+1=(o1:Int):=by have:=O.out;omega
   have e2:(o1:Int)+1=(o2:Int):=by have:=L.out;omega
   have e3:(o2:Int)+1=(o3:Int):=by have:=X.out;omega
   have e4:(o3:Int)+1=(o4:Int):=by have:=M.out;omega
   have e5:(o4:Int)+1=(o5:Int):=by have:=J.out;omega
   have e6:(o5:Int)+1=(o6:Int):=by have:=K.out;omega
   have e8:(o7:Int)+1=(o8:Int):=by have:=Z.out;omega
   have e9:(o8:Int)+1=(o9:Int):=by have:=R.out;omega
   have n0:(o9:Int)+1=(a1:Int):=by have:=C.out;omega
   have n3:(a1:Int)+1=(a0:Int):=by have:=A.out;omega
   have UB:Hid (o13<=400000000/\a4<=400000000/\a0<=400000000/\o6<=400000000/\o5<=400000000/\o1<=400000000/\o0<=400000000):=by have:=O.out;have:=L.out;have:=X.out;have:=M.out;have:=J.out;have:=K.out;have:=H.out;have:=Z.out;have:=R.out;have:=C.out;have:=A.out;have:=u.out;have:=D.out;exact⟨by omega,by omega,by omega,by omega,by omega,by omega,by omega⟩
   have HNX2:Hid (o13=k+tot (fun i=>wkS (S i)) (c+1)):=by show _=_;rw[<-k3.out];have:=O.out;have:=L.out;have:=X.out;have:=M.out;have:=J.out;have:=K.out;have:=H.out;have:=Z.out;have:=R.out;have:=C.out;have:=A.out;have:=u.out;have:=D.out;omega
   have u0:o0<=400000000:=by have:=O.out;have:=L.out;have:=X.out;have:=M.out;have:=J.out;have:=K.out;have:=H.out;have:=Z.out;have:=R.out;have:=C.out;have:=A.out;have:=u.out;have:=UB.1;have:=D.out;omega
   have u1:o1<=400000000:=by have:=O.out;have:=L.out;have:=X.out;have:=M.out;have:=J.out;have:=K.out;have:=H.out;have:=Z.out;have:=R.out;have:=C.out;have:=A.out;have:=u.out;have:=UB.1;have:=D.out;omega
   have u2:o2<=400000000:=by have:=O.out;have:=L.out;have:=X.out;have:=M.out;have:=J.out;have:=K.out;have:=H.out;have:=Z.out;have:=R.out;have:=C.out;have:=A.out;have:=u.out;have:=UB.1;have:=D.out;omega
   have u3:o3<=400000000:=by have:=O.out;have:=L.out;have:=X.out;have:=M.out;have:=J.out;have:=K.out;have:=H.out;have:=Z.out;have:=R.out;have:=C.out;have:=A.out;have:=u.out;have:=UB.1;have:=D.out;omega
   have u4:o4<=400000000:=by have:=O.out;have:=L.out;have:=X.out;have:=M.out;have:=J.out;have:=K.out;have:=H.out;have:=Z.out;have:=R.out;have:=C.out;have:=A.out;have:=u.out;have:=UB.1;have:=D.out;omega
   have u5:o5<=400000000:=by have:=O.out;have:=L.out;have:=X.out;have:=M.out;have:=J.out;have:=K.out;have:=H.out;have:=Z.out;have:=R.out;have:=C.out;have:=A.out;have:=u.out;have:=UB.1;have:=D.out;omega
   have u6:o6<=400000000:=by have:=O.out;have:=L.out;have:=X.out;have:=M.out;have:=J.out;have:=K.out;have:=H.out;have:=Z.out;have:=R.out;have:=C.out;have:=A.out;have:=u.out;have:=UB.1;have:=D.out;omega
   have u7:o7<=400000000:=by have:=O.out;have:=L.out;have:=X.out;have:=M.out;have:=J.out;have:=K.out;have:=H.out;have:=Z.out;have:=R.out;have:=C.out;have:=A.out;have:=u.out;have:=UB.1;have:=D.out;omega
   have u8:o8<=400000000:=by have:=O.out;have:=L.out;have:=X.out;have:=M.out;have:=J.out;have:=K.out;have:=H.out;have:=Z.out;have:=R.out;have:=C.out;have:=A.out;have:=u.out;have:=UB.1;have:=D.out;omega
   have u9:o9<=400000000:=by have:=O.out;have:=L.out;have:=X.out;have:=M.out;have:=J.out;have:=K.out;have:=H.out;have:=Z.out;have:=R.out;have:=C.out;have:=A.out;have:=u.out;have:=UB.1;have:=D.out;omega
   have l5:a1<=400000000:=by have:=O.out;have:=L.out;have:=X.out;have:=M.out;have:=J.out;have:=K.out;have:=H.out;have:=Z.out;have:=R.out;have:=C.out;have:=A.out;have:=u.out;have:=UB.1;have:=D.out;omega
   have m8:a0<=400000000:=by have:=O.out;have:=L.out;have:=X.out;have:=M.out;have:=J.out;have:=K.out;have:=H.out;have:=Z.out;have:=R.out;have:=C.out;have:=A.out;have:=u.out;have:=UB.1;have:=D.out;omega
   obtain⟨s0,i5⟩:=nnH (vT o0);have j8:Hid (∀ W,CB 98 #[(o0:Int)] W s0):=fun W=>by rw[<-i5.out];exact jM o0 W (by omega)
   obtain⟨s1,i3⟩:=nnH (vT o1);have k8:Hid (∀ W,CB 98 #[(o1:Int)] W s1):=fun W=>by rw[<-i3.out];exact jM o1 W (by omega)
   obtain⟨s5,i9⟩:=nnH (vT o5);have k2:Hid (∀ W,CB 98 #[(o5:Int)] W s5):=fun W=>by rw[<-i9.out];exact jM o5 W (by omega)
   have k6:=a8.1;have k5:=a8.2.1;have j7:=a8.2.2;have K1:Hid (MkS wr B 42 13 g n cap G (fun i=>slD (S' i))/\Trn w wr F):=⟨KO.2.2.1,KO.2.2.2⟩;obtain⟨W1,g8⟩:=nmH wr;have M1:=K1.1;rw[<-g8.out] at M1;have i4:Hid (MkS W1 B 42 13 g n cap G _/\Trn w W1 F):=⟨M1,by rw[g8.out];exact K1.2⟩;go_wp2_with fail
   rw[<-g8.out];refine CM (j8 _) fun w1 b1=>?_
   have g5:Hid (MkS w1 B 42 13 g n cap G _/\Trn w w1 F):=⟨MkS.below i4.1 b1,i4.2.trans (Trn.ofBelow F b1)⟩;obtain⟨l7,x0,f0,_⟩:=MkS.cell g5.1 hlt (show 0<13 by omega);simp only[Cp] at x0 f0;obtain⟨W2,c7⟩:=nmH ((w1.setCell (Q g (c*13) I) s0));have M2:=g5.1;have M2:=MkS.set M2 KS hlt (show 0<13 by omega) s0;rw[Cp] at M2;rw[<-c7.out] at M2;have i7:Hid (MkS W2 B 42 13 g n cap G _/\Trn w W2 F):=⟨M2,by rw[c7.out];exact(g5.2.trans (Trn.set _ (c*13) _ HG))⟩;go_wp2_with fail
   rw[<-c7.out];refine CM (k8 _) fun w2 b2=>?_
   have a3:Hid (MkS w2 B 42 13 g n cap G _/\Trn w w2 F):=⟨MkS.below i7.1 b2,i7.2.trans (Trn.ofBelow F b2)⟩;obtain⟨m3,x1,f1,_⟩:=MkS.cell a3.1 hlt (show 1<13 by omega);obtain⟨l4,x2,f2,_⟩:=MkS.cell a3.1 hlt (show 2<13 by omega);obtain⟨l9,x3,f3,_⟩:=MkS.cell a3.1 hlt (show 3<13 by omega);obtain⟨m4,x4,f4,_⟩:=MkS.cell a3.1 hlt (show 4<13 by omega);obtain⟨W3,g4⟩:=nmH (((((w2.setCell (Q g (c*13+1) I) s1).setCell (Q g (c*13+2) I) (o2:Int)).setCell (Q g (c*13+3) I) (o3:Int)).setCell (Q g (c*13+4) I) (o4:Int)));have M3:=a3.1;have M3:=MkS.set M3 KS hlt (show 1<13 by omega) s1;have M3:=MkS.set M3 KS hlt (show 2<13 by omega) (o2:Int);have M3:=MkS.set M3 KS hlt (show 3<13 by omega) (o3:Int);have M3:=MkS.set M3 KS hlt (show 4<13 by omega) (o4:Int);rw[<-g4.out] at M3;have h8:Hid (MkS W3 B 42 13 g n cap G _/\Trn w W3 F):=⟨M3,by rw[g4.out];exact((((a3.2.trans (Trn.set _ (c*13+1) _ HG)).trans (Trn.set _ (c*13+2) _ HG)).trans (Trn.set _ (c*13+3) _ HG)).trans (Trn.set _ (c*13+4) _ HG))⟩;go_wp2_with fail
   rw[<-g4.out];refine CM (k2 _) fun w3 b3=>?_
   have h4:Hid (MkS w3 B 42 13 g n cap G _/\Trn w w3 F):=⟨MkS.below h8.1 b3,h8.2.trans (Trn.ofBelow F b3)⟩;obtain⟨m2,x5,f5,_⟩:=MkS.cell h4.1 hlt (show 5<13 by omega);obtain⟨W4,b7⟩:=nmH ((w3.setCell (Q g (c*13+5) I) s5));have M4:=h4.1;have M4:=MkS.set M4 KS hlt (show 5<13 by omega) s5;rw[<-b7.out] at M4;have d0:Hid (MkS W4 B 42 13 g n cap G _/\Trn w W4 F):=⟨M4,by rw[b7.out];exact(h4.2.trans (Trn.set _ (c*13+5) _ HG))⟩;obtain⟨v6,x6,_,h6⟩:=MkS.cell d0.1 hlt (show 6<13 by omega);have h7:Hid (Ow W4 B (txD (S c).p.m (S c).p.S) v6 (G c 6)):=by
    have:=h6
    simp[slD,hS] at this;exact this
   have b0:Hid _:=QP B v6 (S c).p.m (S c).p.S o6 o7 (G c 6) W4 h7 (by rw[a5.out];exact k6) (by omega) (by rw[a5.out];exact H.out);obtain⟨a6,c6,e6⟩:∃ a6 c6,v6=V a6 m c6:=by
    obtain⟨a,cp,e,_⟩:=jEf h7;rw[a5.out] at e;exact⟨a,cp,e⟩
   subst e6;have X6:=hd x6;have y6:w3.cell? (Q g (c*13+6) I)=some (V a6 m c6):=by
    have h1:=x6;rw[b7.out,C9 _ _ _ _ (by simp)] at h1;exact h1
   go_wp2_with fail
   rw[<-b7.out];refine Ax b0.out ?_;rintro e w4 ⟨rfl,j4,i0⟩;have M4:=MkS.turn d0.1 KS hlt (show 6<13 by omega) X6.out j4 i0;have a7:Hid (MkS w4 B 42 13 g n cap G _/\Trn w w4 F):=⟨M4,d0.2.trans (i0.mono (fun x hx=>KS.sub c 6 x hlt (by omega) hx))⟩;obtain⟨m6,x7,f7,_⟩:=MkS.cell a7.1 hlt (show 7<13 by omega);obtain⟨m0,x8,f8,_⟩:=MkS.cell a7.1 hlt (show 8<13 by omega);obtain⟨m5,x9,f9,_⟩:=MkS.cell a7.1 hlt (show 9<13 by omega);obtain⟨l3,n1,m9,_⟩:=MkS.cell a7.1 hlt (show 10<13 by omega);obtain⟨W5,b6⟩:=nmH (((((w4.setCell (Q g (c*13+7) I) ((o7:Int) % 3==0)).setCell (Q g (c*13+8) I) ((o8:Int) % 3==0)).setCell (Q g (c*13+9) I) ((o9:Int) % 3==0)).setCell (Q g (c*13+10) I) ((a1:Int) % 3==0)));have M5:=a7.1;have M5:=MkS.set M5 KS hlt (show 7<13 by omega) ((o7:Int) % 3==0);have M5:=MkS.set M5 KS hlt (show 8<13 by omega) ((o8:Int) % 3==0);have M5:=MkS.set M5 KS hlt (show 9<13 by omega) ((o9:Int) % 3==0);have M5:=MkS.set M5 KS hlt (show 10<13 by omega) ((a1:Int) % 3==0);rw[<-b6.out] at M5;have g0:Hid (MkS W5 B 42 13 g n cap G _/\Trn w W5 F):=⟨M5,by rw[b6.out];exact((((a7.2.trans (Trn.set _ (c*13+7) _ HG)).trans (Trn.set _ (c*13+8) _ HG)).trans (Trn.set _ (c*13+9) _ HG)).trans (Trn.set _ (c*13+10) _ HG))⟩;obtain⟨c9,j0,_,j6⟩:=MkS.cell g0.1 hlt (show 11<13 by omega);have b8:Hid (Ow W5 B (inD (S c).ze) c9 (G c 11)):=by
    have:=j6
    simp[slD,hS] at this;exact this
   have b0:Hid _:=JH B c9 (S c).ze a0 a4 (G c 11) W5 b8 (by rw[a2.out];exact k5) (by have:=UB.out;omega) (by rw[a2.out];exact u.out);obtain⟨g6,h5,i8⟩:∃ g6 h5,c9=V g6 le h5:=by
    obtain⟨a,cp,e,_⟩:=JX b8;rw[a2.out] at e;exact⟨a,cp,e⟩
   subst i8;have j9:=hd j0;have l8:w4.cell? (Q g (c*13+11) I)=some (V g6 le h5):=by
    have h1:=j0;rw[b6.out,C9 _ _ _ _ (by simp),C9 _ _ _ _ (by simp),C9 _ _ _ _ (by simp),C9 _ _ _ _ (by simp)] at h1;exact h1
   go_wp2_with fail
   rw[<-b6.out];refine Ax b0.out ?_;rintro e w5 ⟨rfl,i1,b9⟩;have M5:=MkS.turn g0.1 KS hlt (show 11<13 by omega) j9.out i1 b9;have j2:Hid (MkS w5 B 42 13 g n cap G _/\Trn w w5 F):=⟨M5,g0.2.trans (b9.mono (fun x hx=>KS.sub c 11 x hlt (by omega) hx))⟩;obtain⟨W6,b4⟩:=nmH w5;have M6:=j2.1;rw[<-b4.out] at M6;have h0:Hid (MkS W6 B 42 13 g n cap G _/\Trn w W6 F):=⟨M6,by rw[b4.out];exact j2.2⟩;obtain⟨e0,i2,_,j5⟩:=MkS.cell h0.1 hlt (show 12<13 by omega);have c4:Hid (Ow W6 B (inD (S c).zr) e0 (G c 12)):=by
    have:=j5
    simp[slD,hS] at this;exact this
   have b0:Hid _:=JH B e0 (S c).zr a4 o13 (G c 12) W6 c4 (by rw[a9.out];exact j7) (by have:=UB.out;omega) (by rw[a9.out];exact D.out);obtain⟨e7,f6,h9⟩:∃ e7 f6,e0=V e7 lr f6:=by
    obtain⟨a,cp,e,_⟩:=JX c4;rw[a9.out] at e;exact⟨a,cp,e⟩
   subst h9;have k0:=hd i2;have m1:w5.cell? (Q g (c*13+12) I)=some (V e7 lr f6):=by
    have h1:=i2;rw[b4.out] at h1;exact h1
   go_wp2_with fail
   rw[<-b4.out];refine Ax b0.out ?_;rintro e w6 ⟨rfl,j1,c0⟩;have M6:=MkS.turn h0.1 KS hlt (show 12<13 by omega) k0.out j1 c0;have b5:Hid (MkS w6 B 42 13 g n cap G _/\Trn w w6 F):=⟨M6,h0.2.trans (c0.mono (fun x hx=>KS.sub c 12 x hlt (by omega) hx))⟩;obtain⟨W7,i6⟩:=nmH w6;have M7:=b5.1;rw[<-i6.out] at M7;have n2:Hid (MkS W7 B 42 13 g n cap G _/\Trn w W7 F):=⟨M7,by rw[i6.out];exact b5.2⟩;have HN:Hid (∃ S2:Nat->Sl,(∀ i,S2 i=if i<c+1 then mkL k S i else S i)/\MkS w6 B 42 13 g n cap G (fun i=>slD (S2 i))/\Trn w w6 F):=by
    have hd:mkL k S c=⟨s0,⟨s1,(o2:Int),(o3:Int),(o4:Int),s5,(S c).p.m,fun j=>vT (o6+j)⟩,((o7:Int) % 3==0),((o8:Int) % 3==0),((o9:Int) % 3==0),((a1:Int) % 3==0),jW a0 (S c).ze.length,jW a4 (S c).zr.length⟩:=by
     have z0:=KO.1.symm;have z1:=O.symm;have z2:o0+2=o2:=by have:=L.out;omega
     have z3:o0+3=o3:=by have:=X.out;omega
     have z4:o0+4=o4:=by have:=M.out;omega
     have z5:o0+5=o5:=by have:=J.out;omega
     have z6:o0+6=o6:=by have:=K.out;omega
     have z7:o6+(S c).p.m=o7:=by rw[a5.out];exact H
     have z8:o0+7+(S c).p.m=o8:=by have:=Z.out;omega
     have z9:o0+8+(S c).p.m=o9:=by have:=R.out;omega
     have k9:o0+9+(S c).p.m=a1:=by have:=C.out;omega
     have k4:o0+10+(S c).p.m=a0:=by have:=A.out;omega
     have j3:a0+(S c).ze.length=a4:=by rw[a2.out];exact u
     unfold mkL mkX;rw[z0,z1,z2,z3,z4,z5,z6,z7,z8,z9,k9,k4,j3,i5.out,i3.out,i9.out]
    refine⟨fun i=>if i<c+1 then mkL k S i else S i,fun i=>rfl,MkS.congr b5.1 fun i q hi hq=>?_,b5.2⟩;show _=slD (if i<c+1 then mkL k S i else S i) q;by_cases ei:i=c
    .subst ei;rw[A6 (show i<i+1 by omega),hd];match q,hq with
     | 0,_|1,_|2,_|3,_|4,_|5,_|6,_|7,_|8,_|9,_|10,_|11,_|12,_=>simp[slD]
    .have e1:=KO.2.1 i;by_cases e2:i<c
     .rw[A6 (show i<c+1 by omega)];rw[A6 e2] at e1;simp[ei,e1]
     .rw[A5 (show ¬ i<c+1 by omega)];rw[A5 e2] at e1;simp[ei,e1]
   go_wp2
   obtain⟨S2,g1,g2,g3⟩:=HN.out;go_roundw
   case rel=>exact⟨c+1,o13,S2,by omega,by go_num,by go_num,HNX2.out,g1,g2,g3⟩
   case measure=>simp[intOf];omega
  .obtain rfl:c=n:=by omega
   go_wp2
   go_ret
   have HF:=hd ((KO.2.2.1.congr (fun i q hi _=>by rw[KO.out.2.1 i,A6 hi])).ow KS);exact⟨jS (by have:=KO.1;omega),HF.out,KO.out.2.2.2⟩
theorem jC5 (a:OA) (n cap:Nat) (S:Nat->Sl) (k:Nat) (w:Ad) (h:Rd w (qH n (mkL k S)) (V a n cap)) (hn:n<=1048576) (hm:∀ i,i<n->SlS (S i)) (hk:k+tot (fun i=>wkS (S i)) n<=400000000):CB 150 #[V a n cap,(k:Int)] w (Ao Ar ((k+tot (fun i=>wkS (S i)) n:Nat):Int)):=by
 have KH:Hid (Rd w (qH n (mkL k S)) (V a n cap)):=h;have HM:Hid (∀ i,i<n->SlS (S i)):=hm;have HK:Hid (k+tot (fun i=>wkS (S i)) n<=400000000):=hk;clear h hm hk;go_enter func150,ntmps150
 go_wp2
 go_loopw [1,5] (fun vk vi wr=>∃ (c x:Nat),c<=n/\vk=Ao Ar (x:Int)/\vi=Ao Ar (c:Int)/\Hid (x=k+tot (fun i=>wkS (S i)) c)/\Ab w w wr) (fun _ vi _=>n-(intOf vi).toNat)
 case atStart=>exact⟨0,k,Bi _,rfl,rfl,rfl,Az _ _⟩
 case round=>
  obtain⟨c,Z,h8,rfl,rfl,HO,a3⟩:=hrel;by_cases hlt:c<n
  case neg=>
   obtain rfl:c=n:=by omega
   go_wp2
   go_ret
   exact⟨jS (by have:=HO.out;omega),a3⟩
  have g5:(c:Int)<(n:Int):=by omega
  have a4:=HM c hlt;have ho:Z+wkS (S c)<=400000000:=by
   have h1:=HO.out;have h2:tot (fun i=>wkS (S i)) c+wkS (S c)<=tot (fun i=>wkS (S i)) n:=XD (g:=fun i=>wkS (S i)) hlt;have h3:=HK.out;omega
  obtain⟨m,b9⟩:=nnH ((S c).p.m);obtain⟨le,b6⟩:=nnH ((S c).ze.length);obtain⟨lr,b8⟩:=nnH ((S c).zr.length);have f8:Hid (Z+10+m+le+lr=k+tot (fun i=>wkS (S i)) (c+1)):=by
   show _=k+(tot (fun i=>wkS (S i)) c+wkS (S c));have:=HO.out
   unfold wkS;rw[b9.out,b6.out,b8.out];unfold wkS at this;omega
  unfold wkS at ho;unfold SlS at a4;rw[b9.out,b6.out,b8.out] at ho a4;obtain⟨o1,K⟩:=nmH (Z+1);obtain⟨o2,H⟩:=nmH (o1+1);obtain⟨o3,M⟩:=nmH (o2+1);obtain⟨o4,J⟩:=nmH (o3+1);obtain⟨o5,D⟩:=nmH (o4+1);obtain⟨o6,G⟩:=nmH (o5+1);obtain⟨o7,C⟩:=nnH (o6+m);obtain⟨o8,O⟩:=nmH (o7+1);obtain⟨o9,L⟩:=nmH (o8+1);obtain⟨a5,A⟩:=nmH (o9+1);obtain⟨a0,u⟩:=nmH (a5+1);obtain⟨X,q⟩:=nnH (a0+le);obtain⟨o13,B⟩:=nnH (X+lr);have e1:(Z:Int)+1=(o1:Int):=by have:=K.out;omega
  have e2:(o1:Int)+1=(o2:Int):=by have:=H.out;omega
  have e3:(o2:Int)+1=(o3:Int):=by have:=M.out;omega
  have e4:(o3:Int)+1=(o4:Int):=by have:=J.out;omega
  have e5:(o4:Int)+1=(o5:Int):=by have:=D.out;omega
  have e6:(o5:Int)+1=(o6:Int):=by have:=G.out;omega
  have e8:(o7:Int)+1=(o8:Int):=by have:=O.out;omega
  have e9:(o8:Int)+1=(o9:Int):=by have:=L.out;omega
  have i0:(o9:Int)+1=(a5:Int):=by have:=A.out;omega
  have i3:(a5:Int)+1=(a0:Int):=by have:=u.out;omega
  have HNX2:Hid (o13=k+tot (fun i=>wkS (S i)) (c+1)):=by show _=_;rw[<-f8.out];have:=K.out;have:=H.out;have:=M.out;have:=J.out;have:=D.out;have:=G.out;have:=C.out;have:=O.out;have:=L.out;have:=A.out;have:=u.out;have:=q.out;have:=B.out;omega
  have u0:Z<=400000000:=by have:=K.out;have:=H.out;have:=M.out;have:=J.out;have:=D.out;have:=G.out;have:=C.out;have:=O.out;have:=L.out;have:=A.out;have:=u.out;have:=q.out;have:=B.out;omega
  have u1:o1<=400000000:=by have:=K.out;have:=H.out;have:=M.out;have:=J.out;have:=D.out;have:=G.out;have:=C.out;have:=O.out;have:=L.out;have:=A.out;have:=u.out;have:=q.out;have:=B.out;omega
  have u2:o2<=400000000:=by have:=K.out;have:=H.out;have:=M.out;have:=J.out;have:=D.out;have:=G.out;have:=C.out;have:=O.out;have:=L.out;have:=A.out;have:=u.out;have:=q.out;have:=B.out;omega
  have u3:o3<=400000000:=by have:=K.out;have:=H.out;have:=M.out;have:=J.out;have:=D.out;have:=G.out;have:=C.out;have:=O.out;have:=L.out;have:=A.out;have:=u.out;have:=q.out;have:=B.out;omega
  have u4:o4<=400000000:=by have:=K.out;have:=H.out;have:=M.out;have:=J.out;have:=D.out;have:=G.out;have:=C.out;have:=O.out;have:=L.out;have:=A.out;have:=u.out;have:=q.out;have:=B.out;omega
  have u5:o5<=400000000:=by have:=K.out;have:=H.out;have:=M.out;have:=J.out;have:=D.out;have:=G.out;have:=C.out;have:=O.out;have:=L.out;have:=A.out;have:=u.out;have:=q.out;have:=B.out;omega
  have u6:o6<=400000000:=by have:=K.out;have:=H.out;have:=M.out;have:=J.out;have:=D.out;have:=G.out;have:=C.out;have:=O.out;have:=L.out;have:=A.out;have:=u.out;have:=q.out;have:=B.out;omega
  have u7:o7<=400000000:=by have:=K.out;have:=H.out;have:=M.out;have:=J.out;have:=D.out;have:=G.out;have:=C.out;have:=O.out;have:=L.out;have:=A.out;have:=u.out;have:=q.out;have:=B.out;omega
  have u8:o8<=400000000:=by have:=K.out;have:=H.out;have:=M.out;have:=J.out;have:=D.out;have:=G.out;have:=C.out;have:=O.out;have:=L.out;have:=A.out;have:=u.out;have:=q.out;have:=B.out;omega
  have u9:o9<=400000000:=by have:=K.out;have:=H.out;have:=M.out;have:=J.out;have:=D.out;have:=G.out;have:=C.out;have:=O.out;have:=L.out;have:=A.out;have:=u.out;have:=q.out;have:=B.out;omega
  have g4:a5<=400000000:=by have:=K.out;have:=H.out;have:=M.out;have:=J.out;have:=D.out;have:=G.out;have:=C.out;have:=O.out;have:=L.out;have:=A.out;have:=u.out;have:=q.out;have:=B.out;omega
  have h9:a0<=400000000:=by have:=K.out;have:=H.out;have:=M.out;have:=J.out;have:=D.out;have:=G.out;have:=C.out;have:=O.out;have:=L.out;have:=A.out;have:=u.out;have:=q.out;have:=B.out;omega
  have h7:X<=400000000:=by have:=K.out;have:=H.out;have:=M.out;have:=J.out;have:=D.out;have:=G.out;have:=C.out;have:=O.out;have:=L.out;have:=A.out;have:=u.out;have:=q.out;have:=B.out;omega
  have h5:o13<=400000000:=by have:=K.out;have:=H.out;have:=M.out;have:=J.out;have:=D.out;have:=G.out;have:=C.out;have:=O.out;have:=L.out;have:=A.out;have:=u.out;have:=q.out;have:=B.out;omega
  obtain⟨s0,e7⟩:=nnH (vT Z);have f4:Hid (∀ W,CB 98 #[(Z:Int)] W s0):=fun W=>by rw[<-e7.out];exact jM Z W (by omega)
  have n0:(s0.toList !=s0.toList)=Av:=by simp
  have g3:=vD s0;obtain⟨s1,c9⟩:=nnH (vT o1);have g1:Hid (∀ W,CB 98 #[(o1:Int)] W s1):=fun W=>by rw[<-c9.out];exact jM o1 W (by omega)
  have n1:(s1.toList !=s1.toList)=Av:=by simp
  have i1:=vD s1;obtain⟨s5,f2⟩:=nnH (vT o5);have f7:Hid (∀ W,CB 98 #[(o5:Int)] W s5):=fun W=>by rw[<-f2.out];exact jM o5 W (by omega)
  have n5:(s5.toList !=s5.toList)=Av:=by simp
  have g8:=vD s5;have n2:((o2:Int) !=(o2:Int))=Av:=by simp
  have n3:((o3:Int) !=(o3:Int))=Av:=by simp
  have n4:((o4:Int) !=(o4:Int))=Av:=by simp
  obtain⟨t7,f5⟩:∃ x,((o7:Int) % 3==0)=x:=⟨_,rfl⟩;have n7:(t7 !=t7)=Av:=by simp
  obtain⟨t8,f6⟩:∃ x,((o8:Int) % 3==0)=x:=⟨_,rfl⟩;have n8:(t8 !=t8)=Av:=by simp
  obtain⟨t9,g0⟩:∃ x,((o9:Int) % 3==0)=x:=⟨_,rfl⟩;have n9:(t9 !=t9)=Av:=by simp
  obtain⟨a6,c1⟩:∃ x,((a5:Int) % 3==0)=x:=⟨_,rfl⟩;have n10:(a6 !=a6)=Av:=by simp
  have hd:mkL k S c=⟨s0,⟨s1,(o2:Int),(o3:Int),(o4:Int),s5,m,fun j=>vT (o6+j)⟩,t7,t8,t9,a6,jW a0 le,jW X lr⟩:=by
   have z0:k+tot (fun i=>wkS (S i)) c=Z:=HO.symm;have z1:Z+1=o1:=K.symm;have z2:Z+2=o2:=by have:=H.out;omega
   have z3:Z+3=o3:=by have:=M.out;omega
   have z4:Z+4=o4:=by have:=J.out;omega
   have z5:Z+5=o5:=by have:=D.out;omega
   have z6:Z+6=o6:=by have:=G.out;omega
   have z7:o6+m=o7:=C.out;have z8:Z+7+m=o8:=by have:=O.out;omega
   have z9:Z+8+m=o9:=by have:=L.out;omega
   have g2:Z+9+m=a5:=by have:=A.out;omega
   have f9:Z+10+m=a0:=by have:=u.out;omega
   have f3:a0+le=X:=q.out;unfold mkL mkX;rw[b9.out,b6.out,b8.out,z0,z1,z2,z3,z4,z5,z6,z7,z8,z9,g2,f9,f3,e7.out,c9.out,f2.out,f5,f6,g0,c1]
  obtain⟨b1,f1,p6,b2,b3,q6,b5,a8,rfl,R1,h6,b0,a9⟩:=QG (KH.below a3) hlt;rw[hd] at R1 h6 b0 a9;simp only[zW] at R1 h6 b0 a9;have KC:Hid (∀ W,Ab wr.1.size wr W->W.cell? (Q b1 (f1+c*13) I)=some (Ag s0)/\W.cell? (Q b1 (f1+c*13+1) I)=some (Ag s1)/\W.cell? (Q b1 (f1+c*13+2) I)=some (Ao Ar (o2:Int))/\W.cell? (Q b1 (f1+c*13+3) I)=some (Ao Ar (o3:Int))/\W.cell? (Q b1 (f1+c*13+4) I)=some (Ao Ar (o4:Int))/\W.cell? (Q b1 (f1+c*13+5) I)=some (Ag s5)/\W.cell? (Q b1 (f1+c*13+6) I)=some (V p6 m q6)/\W.cell? (Q b1 (f1+c*13+7) I)=some (.bool t7)/\W.cell? (Q b1 (f1+c*13+8) I)=some (.bool t8)/\W.cell? (Q b1 (f1+c*13+9) I)=some (.bool t9)/\W.cell? (Q b1 (f1+c*13+10) I)=some (.bool a6)/\W.cell? (Q b1 (f1+c*13+11) I)=some (V b2 le b5)/\W.cell? (Q b1 (f1+c*13+12) I)=some (V b3 lr a8)):=fun W hW=>by
   have R:∀ (j:Nat) (v:Aj),(slL ⟨s0,⟨s1,(o2:Int),(o3:Int),(o4:Int),s5,m,fun j=>vT (o6+j)⟩,t7,t8,t9,a6,jW a0 le,jW X lr⟩ (V p6 m q6) (V b2 le b5) (V b3 lr a8))[j]?=some v->W.cell? (Q b1 (f1+c*13+j) I)=some v:=fun j v hv=>(hW.cell (A7 (R1 j v hv))).trans (R1 j v hv)
   exact⟨R 0 _ rfl,R 1 _ rfl,R 2 _ rfl,R 3 _ rfl,R 4 _ rfl,R 5 _ rfl,R 6 _ rfl,R 7 _ rfl,R 8 _ rfl,R 9 _ rfl,R 10 _ rfl,R 11 _ rfl,R 12 _ rfl⟩
  have KT:Hid (∀ W,Ab wr.1.size wr W->CB 151 #[V p6 m q6,(o6:Int)] W (o7:Int)):=fun W hW=>jA1 p6 m q6 o6 o7 W (h6.below hW) a4.1 (by omega) C.out
  have KE:Hid (∀ W,Ab wr.1.size wr W->CS 96 #[V b2 le b5,(a0:Int)] W (X:Int)):=fun W hW=>jJo b2 le b5 a0 X W (b0.below hW) a4.2.1 (by omega) q.out
  have KZ:Hid (∀ W,Ab wr.1.size wr W->CS 96 #[V b3 lr a8,(X:Int)] W (o13:Int)):=fun W hW=>jJo b3 lr a8 X o13 W (a9.below hW) a4.2.2 (by omega) B.out
  have g7:¬ ((o7:Int)<0):=by omega
  have h4:¬ ((X:Int)<0):=by omega
  have h0:¬ ((o13:Int)<0):=by omega
  have KBr:Hid (Ab w w wr):=a3;have c4:Hid (Ab wr.1.size wr wr):=Az _ _;clear R1 h6 b0 a9 a3 hd ho a4 KH;obtain⟨y0,_,_,_,_,_,_,_,_,_,_,_,_⟩:=KC wr c4;have Y:∀ d os,(grow (redrawn wr d) os).cell? (Q b1 (f1+c*13) I)=_:=fun d os=>cell_regrown y0 d os
  have NN:∀ d os,Ak prog 98 #[(Z:Int)] (grow (redrawn wr d) os) fun e w'=>e=Ae s0/\∃ p:Regrown,w'=grow (redrawn wr p.d) p.os:=fun d os=>Calls.regrown_of (f4 _)
  go_wp2_with fail
  refine wp_region_quiet_below (by kernel_rfl) (by kernel_rfl) ?_;repeat (go_big_quiet_step (with_reducible exact NN _ _))
  refine Ct ?_;intro _ a7;obtain⟨⟨dq,a1⟩,a2⟩:=a7;subst a2;obtain⟨v1,d0⟩:=nmH (grow (redrawn wr dq) a1);have c7:Hid (Ab wr.1.size wr v1):=by show Ab _ _ _;rw[d0.out];exact jA c4 (below_regrown wr dq a1)
  rw[<-d0.out];clear y0 Y NN;obtain⟨_,y1,_,_,_,_,_,_,_,_,_,_,_⟩:=KC v1 c7;have Y:∀ d os,(grow (redrawn v1 d) os).cell? (Q b1 (f1+c*13+1) I)=_:=fun d os=>cell_regrown y1 d os
  have NN:∀ d os,Ak prog 98 #[(o1:Int)] (grow (redrawn v1 d) os) fun e w'=>e=Ae s1/\∃ p:Regrown,w'=grow (redrawn v1 p.d) p.os:=fun d os=>Calls.regrown_of (g1 _)
  go_wp2_with fail
  refine wp_region_quiet_below (by kernel_rfl) (by kernel_rfl) ?_;repeat (go_big_quiet_step (with_reducible exact NN _ _))
  refine Ct ?_;intro _ a7;obtain⟨⟨dq,a1⟩,a2⟩:=a7;subst a2;obtain⟨v2,e0⟩:=nmH (grow (redrawn v1 dq) a1);have b7:Hid (Ab wr.1.size wr v2):=by show Ab _ _ _;rw[e0.out];exact jA c7 (below_regrown v1 dq a1)
  rw[<-e0.out];clear y1 Y NN;obtain⟨_,_,y2,y3,y4,_,_,_,_,_,_,_,_⟩:=KC v2 b7;go_wp2_with fail
  clear y2 y3 y4;obtain⟨_,_,_,_,_,y5,_,_,_,_,_,_,_⟩:=KC v2 b7;have Y:∀ d os,(grow (redrawn v2 d) os).cell? (Q b1 (f1+c*13+5) I)=_:=fun d os=>cell_regrown y5 d os
  have NN:∀ d os,Ak prog 98 #[(o5:Int)] (grow (redrawn v2 d) os) fun e w'=>e=Ae s5/\∃ p:Regrown,w'=grow (redrawn v2 p.d) p.os:=fun d os=>Calls.regrown_of (f7 _)
  refine wp_region_quiet_below (by kernel_rfl) (by kernel_rfl) ?_;repeat (go_big_quiet_step (with_reducible exact NN _ _))
  refine Ct ?_;intro _ a7;obtain⟨⟨dq,a1⟩,a2⟩:=a7;subst a2;obtain⟨v3,f0⟩:=nmH (grow (redrawn v2 dq) a1);have c0:Hid (Ab wr.1.size wr v3):=by show Ab _ _ _;rw[f0.out];exact jA b7 (below_regrown v2 dq a1)
  rw[<-f0.out];clear y5 Y NN;obtain⟨_,_,_,_,_,_,y6,_,_,_,_,_,_⟩:=KC v3 c0;go_wp2_with fail
  refine CM (KT _ c0) fun v4 b4=>?_
  have KB4:Hid (Ab wr.1.size wr v4):=jA c0 b4;clear y6 b4;obtain⟨_,_,_,_,_,_,_,y7,y8,y9,i2,i4,g6⟩:=KC v4 KB4;go_wp2_with fail
  refine CM (KE _ KB4) fun v5 hw=>?_
  obtain rfl:=hw.symm;clear hw;go_wp2_with fail
  refine CM (KZ _ KB4) fun v5 hw=>?_
  obtain rfl:=hw.symm;clear hw;go_wp2
  go_roundw
  case rel=>exact⟨c+1,o13,by omega,by go_num,by go_num,HNX2.out,jA KBr.out KB4⟩
  case measure=>simp[intOf];omega
end
section
theorem jJ3 (a:OA) (cap k:Nat) (w:Ad):CS 148 #[V a 0 cap,(k:Int)] w (k:Int):=by
 go_enter func148,ntmps148
 go_wp2
 go_loopw [1,5] (fun vk vi wr=>vk=Ao Ar (k:Int)/\vi=Ao Ar 0/\wr=w) (fun _ _ _=>0)
 case atStart=>exact⟨rfl,rfl,rfl⟩
 case round=>
  obtain⟨rfl,rfl,hw⟩:=hrel;obtain rfl:=hw.symm;go_wp2
  go_ret
  exact⟨rfl,rfl⟩
theorem jJ4 (a:OA) (cap k:Nat) (w:Ad):CS 93 #[V a 0 cap,(k:Int)] w (k:Int):=by
 go_enter func93,ntmps93
 go_wp2
 go_loopw [1,5] (fun vk vi wr=>vk=Ao Ar (k:Int)/\vi=Ao Ar 0/\wr=w) (fun _ _ _=>0)
 case atStart=>exact⟨rfl,rfl,rfl⟩
 case round=>
  obtain⟨rfl,rfl,hw⟩:=hrel;obtain rfl:=hw.symm;go_wp2
  go_ret
  exact⟨rfl,rfl⟩
theorem jJ2 (a:OA) (cap k:Nat) (w:Ad):CS 91 #[V a 0 cap,(k:Int)] w (k:Int):=by
 go_enter func91,ntmps91
 go_wp2
 go_loopw [1,5] (fun vk vi wr=>vk=Ao Ar (k:Int)/\vi=Ao Ar 0/\wr=w) (fun _ _ _=>0)
 case atStart=>exact⟨rfl,rfl,rfl⟩
 case round=>
  obtain⟨rfl,rfl,hw⟩:=hrel;obtain rfl:=hw.symm;go_wp2
  go_ret
  exact⟨rfl,rfl⟩
theorem ZI {w:Ad} {B t sz n:Nat} {D:Nat->Nat->Dt} {v:Aj} {F:Nat->Prop} (h:Ow w B (.lst t sz n D) v F):(v=V I 0 0/\n=0)\/∃ g cap,v=V (Q g 0 I) n cap:=by
 obtain⟨a,cap,c,G,rfl,ho,_⟩:=h;rcases ho.2 with ⟨h0,hz⟩|⟨g,a0,b0,e,_⟩
 .exact .inl ⟨h0,hz⟩
 .exact .inr ⟨g,a0,e⟩
theorem jJ0 (B:Nat) (v:Aj) (n:Nat) (S:Nat->Sl) (k:Nat) (F:Nat->Prop) (w:Ad) (h:Ow w B (qH n S) v F) (hn:n<=1048576) (hm:∀ i,i<n->SlS (S i)) (hk:k+tot (fun i=>wkS (S i)) n<=400000000):Ak prog 148 #[v,(k:Int)] w fun e w'=>e=Ae (Ao Ar ((k+tot (fun i=>wkS (S i)) n:Nat):Int))/\Ow w' B (qH n (mkL k S)) v F/\Trn w w' F:=by
 rcases ZI h with ⟨rfl,rfl⟩|⟨g,cap,rfl⟩
 .refine(jJ3 I 0 k w).mono ?_;rintro e w' ⟨rfl,rfl⟩;exact⟨rfl,Ow.nil _ _ _ _ _ _,Trn.refl _ _⟩
 .exact jDe B g n cap F S k w h hn hm hk
theorem jDc (B:Nat) (v:Aj) (n:Nat) (S:Nat->Sy) (k:Nat) (F:Nat->Prop) (w:Ad) (h:Ow w B (qI n S) v F) (hn:n<=1048576) (hm:∀ i,i<n->(S i).p.m<=1048576) (hk:ofy k S n<=400000000):Ak prog 93 #[v,(k:Int)] w fun e w'=>e=Ae (Ao Ar ((ofy k S n:Nat):Int))/\Ow w' B (qI n (zG k S)) v F/\Trn w w' F:=by
 rcases ZI h with ⟨rfl,rfl⟩|⟨g,cap,rfl⟩
 .refine(jJ4 I 0 k w).mono ?_;rintro e w' ⟨rfl,rfl⟩;exact⟨rfl,Ow.nil _ _ _ _ _ _,Trn.refl _ _⟩
 .exact jDf B g n cap F S k w h hn hm hk
def wkN (d:Nd):Nat:=2+tot (fun i=>wkS (d.S i)) d.n
def jS5 (o:Nat) (d:Nd):Nd:=⟨(o:Int),((o+1:Nat):Int),d.n,mkL (o+2) d.S⟩
def XU (k:Nat) (N:Nat->Nd) (i:Nat):Nd:=jS5 (k+tot (fun i=>wkN (N i)) i) (N i)
theorem jDd (B g n cap:Nat) (F:Nat->Prop) (N:Nat->Nd) (k:Nat) (w:Ad) (h:Ow w B (qR n N) (V g n cap) F) (hn:n<=1048576) (hm:∀ i,i<n->NdS (N i)) (hk:k+tot (fun i=>wkN (N i)) n<=400000000):Ak prog 91 #[V g n cap,(k:Int)] w fun e w'=>e=Ae (Ao Ar ((k+tot (fun i=>wkN (N i)) n:Nat):Int))/\Ow w' B (qR n (XU k N)) (V g n cap) F/\Trn w w' F:=by
 obtain⟨G,c0,m0⟩:=Ow.mk h;have KS:H (Sep g n 3 G F):=c0;have HG:H (F g):=c0.head _ rfl;have K0:H (MkS w B 26 3 g n cap G (fun i=>ndD (if i<0 then XU k N i else N i))):=m0.congr (fun i q _ _=>by simp);have HM:H (∀ i,i<n->NdS (N i)):=hm;have HK:H (k+tot (fun i=>wkN (N i)) n<=400000000):=hk;clear h hm c0 m0 hk;go_enter func91,ntmps91
 go_wp2
 go_loopw [1,5] (fun vk vi wr=>∃ (c x:Nat),c<=n/\vk=Ao Ar (x:Int)/\vi=Ao Ar (c:Int)/\H (x=k+tot (fun i=>wkN (N i)) c/\MkS wr B 26 3 g n cap G (fun i=>ndD (if i<c then XU k N i else N i))/\Trn w wr F)) (fun _ vi _=>n-(intOf vi).toNat)
 case atStart=>exact⟨0,k,Bi _,rfl,rfl,rfl,K0,Trn.refl _ _⟩
 case round=>
  obtain⟨c,o0,p0,rfl,rfl,KO⟩:=hrel;clear K0;by_cases hlt:c<n
  case neg=>
   obtain rfl:c=n:=by omega
   have HF:H (Ow wr B (qR c (XU k N)) (V g c cap) F):=(KO.2.1.congr (fun i q hi _=>by simp only[hi,C0])).ow KS;go_wp2
   go_ret
   exact⟨jS (by have:=KO.1;omega),HF.out,KO.out.2.2⟩
  have q0:(c:Int)<(n:Int):=by omega
  have j0:=HM c hlt;obtain⟨wk,g0⟩:=nnH (tot (fun i=>wkS ((N c).S i)) (N c).n);obtain⟨o1,e0⟩:=nmH (o0+1);obtain⟨o2,b0⟩:=nmH (o1+1);obtain⟨o3,a0⟩:=nnH (o2+wk);have HNX:H (o3=k+tot (fun i=>wkN (N i)) (c+1)):=by
   show _=k+(tot (fun i=>wkN (N i)) c+wkN (N c));have h1:=KO.1;have h2:wkN (N c)=2+wk:=by unfold wkN;rw[g0.out]
   rw[h2];have:=e0.out;have:=b0.out;have:=a0.out
   omega
  have UB:H (o3<=400000000):=by
   have h2:tot (fun i=>wkN (N i)) c+wkN (N c)<=tot (fun i=>wkN (N i)) n:=XD (g:=fun i=>wkN (N i)) hlt;have h3:=HK.out;have h4:=HNX.out;have h5:tot (fun i=>wkN (N i)) (c+1)=tot (fun i=>wkN (N i)) c+wkN (N c):=rfl;show o3<=_;omega
  have e1:(o0:Int)+1=(o1:Int):=by have:=e0.out;omega
  have e2:(o1:Int)+1=(o2:Int):=by have:=b0.out;omega
  have u0:o0<=400000000:=by have:=UB.out;have:=e0.out;have:=b0.out;have:=a0.out;omega
  have u1:o1<=400000000:=by have:=UB.out;have:=b0.out;have:=a0.out;omega
  have u2:o2<=400000000:=by have:=UB.out;have:=a0.out;omega
  obtain⟨r0,x0,f0,_⟩:=MkS.cell KO.2.1 hlt (show 0<3 by omega);obtain⟨s0,x1,f1,_⟩:=MkS.cell KO.2.1 hlt (show 1<3 by omega);simp only[Cp] at x0 f0;obtain⟨W1,d0⟩:=nmH ((wr.setCell (Q g (c*3) I) (o0:Int)).setCell (Q g (c*3+1) I) (o1:Int));have M1:=MkS.set KO.2.1 KS hlt (show 0<3 by omega) (o0:Int);rw[Cp] at M1;have M1:=MkS.set M1 KS hlt (show 1<3 by omega) (o1:Int);rw[<-d0.out] at M1;have h0:H (MkS W1 B 26 3 g n cap G _/\Trn w W1 F):=⟨M1,by rw[d0.out];exact(KO.2.2.trans (Trn.set _ (c*3) _ HG)).trans (Trn.set _ (c*3+1) _ HG)⟩;clear M1;obtain⟨v2,x2,_,h2⟩:=MkS.cell h0.1 hlt (show 2<3 by omega);have k0:H (Ow W1 B (qH (N c).n (N c).S) v2 (G c 2)):=by
   have:=h2
   simp[ndD] at this;exact this
  have i0:H _:=jJ0 B v2 (N c).n (N c).S o2 (G c 2) W1 k0 j0.n j0.s (by rw[g0.out,a0.out];have:=UB.out;omega);rw[g0.out,a0.out] at i0;obtain⟨a2,c2,n0⟩:=k0.rd.shape;subst n0;have X2:H (W1.cell? (Q g (c*3+2) I)=M (V a2 (N c).n c2)):=x2;have y2:wr.cell? (Q g (c*3+2) I)=M (V a2 (N c).n c2):=by
   have h1:=x2;rw[d0.out,C9 _ _ _ _ (by simp),C9 _ _ _ _ (by simp)] at h1;exact h1
  clear h2 x2 j0;go_wp2_with fail
  rw[<-d0.out];refine Ax i0.out ?_;rintro e w2 ⟨rfl,hR,hT⟩;have M2:=MkS.turn h0.1 KS hlt (show 2<3 by omega) X2.out hR hT;have HN:H (MkS w2 B 26 3 g n cap G (fun i=>ndD (if i<c+1 then XU k N i else N i))/\Trn w w2 F):=by
   refine⟨MkS.congr M2 fun i q hi hq=>?_,h0.2.trans (hT.mono (fun x hx=>KS.sub c 2 x hlt (by omega) hx))⟩;show _=ndD (if i<c+1 then XU k N i else N i) q;by_cases ei:i=c
   .subst ei;have hd:XU k N i=⟨(o0:Int),(o1:Int),(N i).n,mkL o2 (N i).S⟩:=by
     have z0:k+tot (fun i=>wkN (N i)) i=o0:=KO.1.symm;have z1:o0+1=o1:=e0.symm;have z2:o0+2=o2:=by have:=b0.out;omega
     unfold XU jS5;rw[z0,z1,z2]
    rw[A6 (show i<i+1 by omega),hd];match q,hq with
    | 0,_|1,_|2,_=>simp[ndD]
   .by_cases e3:i<c
    .rw[A6 (show i<c+1 by omega)];simp[ei,e3]
    .rw[A5 (show ¬ i<c+1 by omega)];simp[ei,e3]
  clear M2 hR hT i0 x0 f0 x1 f1 y2;go_wp2
  go_roundw
  case rel=>exact⟨c+1,o3,by omega,by go_num,by go_num,HNX.out,HN.out.1,HN.2⟩
  case measure=>simp[intOf];omega
theorem jC4 (a:OA) (n cap:Nat) (N:Nat->Nd) (k:Nat) (w:Ad) (h:Rd w (qR n (XU k N)) (V a n cap)) (hn:n<=1048576) (hm:∀ i,i<n->NdS (N i)) (hk:k+tot (fun i=>wkN (N i)) n<=400000000):CB 95 #[V a n cap,(k:Int)] w (Ao Ar ((k+tot (fun i=>wkN (N i)) n:Nat):Int)):=by
 have KH:H (Rd w (qR n (XU k N)) (V a n cap)):=h;have HM:H (∀ i,i<n->NdS (N i)):=hm;have HK:H (k+tot (fun i=>wkN (N i)) n<=400000000):=hk;clear h hm hk;go_enter func95,ntmps95
 go_wp2
 go_loopw [1,5] (fun vk vi wr=>∃ (c x:Nat),c<=n/\vk=Ao Ar (x:Int)/\vi=Ao Ar (c:Int)/\H (x=k+tot (fun i=>wkN (N i)) c)/\Ab w w wr) (fun _ vi _=>n-(intOf vi).toNat)
 case atStart=>exact⟨0,k,Bi _,rfl,rfl,rfl,Az _ _⟩
 case round=>
  obtain⟨c,o0,k0,rfl,rfl,HO,a0⟩:=hrel;by_cases hlt:c<n
  case neg=>
   obtain rfl:c=n:=by omega
   go_wp2
   go_ret
   exact⟨jS (by have:=HO.out;omega),a0⟩
  have m0:(c:Int)<(n:Int):=by omega
  have h0:=HM c hlt;obtain⟨wk,f0⟩:=nnH (tot (fun i=>wkS ((N c).S i)) (N c).n);obtain⟨o1,d0⟩:=nmH (o0+1);obtain⟨o2,c0⟩:=nmH (o1+1);obtain⟨o3,b0⟩:=nnH (o2+wk);have HNX:H (o3=k+tot (fun i=>wkN (N i)) (c+1)):=by
   show _=k+(tot (fun i=>wkN (N i)) c+wkN (N c));have h1:=HO.out;have h2:wkN (N c)=2+wk:=by unfold wkN;rw[f0.out]
   rw[h2];have:=d0.out;have:=c0.out;have:=b0.out
   omega
  have UB:H (o3<=400000000):=by
   have h2:tot (fun i=>wkN (N i)) c+wkN (N c)<=tot (fun i=>wkN (N i)) n:=XD (g:=fun i=>wkN (N i)) hlt;have h3:=HK.out;have h4:=HNX.out;have h5:tot (fun i=>wkN (N i)) (c+1)=tot (fun i=>wkN (N i)) c+wkN (N c):=rfl;show o3<=_;omega
  have e1:(o0:Int)+1=(o1:Int):=by have:=d0.out;omega
  have e2:(o1:Int)+1=(o2:Int):=by have:=c0.out;omega
  have u0:o0<=400000000:=by have:=UB.out;have:=d0.out;have:=c0.out;have:=b0.out;omega
  have u1:o1<=400000000:=by have:=UB.out;have:=c0.out;have:=b0.out;omega
  have u2:o2<=400000000:=by have:=UB.out;have:=b0.out;omega
  have n0:((o0:Int) !=(o0:Int))=Av:=by simp
  have n1:((o1:Int) !=(o1:Int))=Av:=by simp
  have g3:¬ ((o3:Int)<0):=by omega
  have hd:XU k N c=⟨(o0:Int),(o1:Int),(N c).n,mkL o2 (N c).S⟩:=by
   have z0:k+tot (fun i=>wkN (N i)) c=o0:=HO.symm;have z1:o0+1=o1:=d0.symm;have z2:o0+2=o2:=by have:=c0.out;omega
   unfold XU jS5;rw[z0,z1,z2]
  obtain⟨b1,f1,an,cn,rfl,⟨y0,y1,y2⟩,_,e0⟩:=zJ (KH.below a0) hlt;rw[hd] at y0 y1 y2 e0;simp only at y0 y1 y2 e0;have g0:H _:=jC5 an (N c).n cn (N c).S o2 wr e0 h0.n h0.s (by rw[f0.out,b0.out];exact UB);rw[f0.out,b0.out] at g0;have j0:H (Ab w w wr):=a0;clear e0 hd h0 a0 KH;go_wp2_with fail
  refine CM g0.out fun v1 i0=>?_
  have KB1:H (Ab w w v1):=jA j0 i0;clear i0 y0 y1 y2 g0;go_wp2
  go_roundw
  case rel=>exact⟨c+1,o3,by omega,by go_num,by go_num,HNX.out,KB1.out⟩
  case measure=>simp[intOf];omega
structure NtO (w:Ad) (B n:Nat) (N:Nat->Nd) (zs:List Int) (m:Nat) (Y:Nat->Sy) (v1 v2 v3:Aj) (F1 F2 F3:Nat->Prop):Prop where
 n:Ow w B (qR n N) v1 F1
 z:Ow w B (inD zs) v2 F2
 y:Ow w B (qI m Y) v3 F3
 d1:∀ g,F1 g->¬ F2 g
 d2:∀ g,F1 g->¬ F3 g
 d3:∀ g,F2 g->¬ F3 g
def mq1 (n:Nat) (N:Nat->Nd):Nat:=1+tot (fun i=>wkN (N i)) n
def mq2 (n:Nat) (N:Nat->Nd) (zs:List Int):Nat:=mq1 n N+zs.length
def mq3 (n:Nat) (N:Nat->Nd) (zs:List Int) (m:Nat) (Y:Nat->Sy):Nat:=ofy (mq2 n N zs) Y m
structure NtK (n:Nat) (N:Nat->Nd) (zs:List Int) (m:Nat) (Y:Nat->Sy):Prop where
 kn:n<=1048576
 kN:∀ i,i<n->NdS (N i)
 kz:zs.length<=1048576
 km:m<=1048576
 kY:∀ i,i<m->(Y i).p.m<=1048576
 kq:mq3 n N zs m Y<=400000000
structure NtW (n:Nat) (N:Nat->Nd) (zs:List Int) (m:Nat) (Y:Nat->Sy):Prop where
 kn:n<=1048576
 kN:∀ i,i<n->NdS (N i)
 kz:zs.length<=1048576
 km:m<=1048576
 kY:∀ i,i<m->(Y i).p.m<=1048576
 kq:mq3 n N zs m Y<=400000000
theorem jKc (k:Nat) (S:Nat->Sy) (n:Nat):k<=ofy k S n:=jGg k S (Bi n)
theorem jDb (B:Nat) (v:Aj) (n:Nat) (N:Nat->Nd) (k:Nat) (F:Nat->Prop) (w:Ad) (h:Ow w B (qR n N) v F) (hn:n<=1048576) (hm:∀ i,i<n->NdS (N i)) (hk:k+tot (fun i=>wkN (N i)) n<=400000000):Ak prog 91 #[v,(k:Int)] w fun e w'=>e=Ae (Ao Ar ((k+tot (fun i=>wkN (N i)) n:Nat):Int))/\Ow w' B (qR n (XU k N)) v F/\Trn w w' F:=by
 rcases ZI h with ⟨rfl,rfl⟩|⟨g,cap,rfl⟩
 .refine(jJ2 I 0 k w).mono ?_;rintro e w' ⟨rfl,rfl⟩;exact⟨rfl,Ow.nil _ _ _ _ _ _,Trn.refl _ _⟩
 .exact jDd B g n cap F N k w h hn hm hk
theorem jHu (f:Int) (B n:Nat) (N:Nat->Nd) (zs:List Int) (m:Nat) (Y:Nat->Sy) (a l e:OA) (c d g:Nat) (F1 F2 F3:Nat->Prop) (w:Ad) (h:NtO w B n N zs m Y (V a n c) (V l zs.length d) (V e m g) F1 F2 F3) (hs:NtW n N zs m Y):Ak prog 32 #[ntV f (V a n c) (V l zs.length d) (V e m g),(1:Int)] w fun r w'=>r=Ae (Ao Ar ((mq3 n N zs m Y:Nat):Int))/\NtO w' B n (XU 1 N) (jW (mq1 n N) zs.length) m (zG (mq2 n N zs) Y) (V a n c) (V l zs.length d) (V e m g) F1 F2 F3/\Trn w w' (fun x=>F1 x\/F2 x\/F3 x):=by
 obtain⟨A,HA⟩:=nmH w.1.size;obtain⟨w0,d0⟩:=nmH (w.alloc (J #[f,V a n c,V l zs.length d,V e m g] 48));have RA:=jZ d0 HA;have e0:=bl1 d0;have nA:∀ {d v} {F:Nat->Prop},Ow w B d v F->Ow w0 B d v (fun x=>F x/\x<A):=fun {d v F} ho=>by
  have:=ho.cut.mono (F':=fun x=>F x/\x<A) (fun x hx=>⟨hx.1,by rw[HA.out];exact hx.2.2⟩)
  exact this.below e0
 obtain⟨q1,b0⟩:=nnH (1+tot (fun i=>wkN (N i)) n);obtain⟨q2,c0⟩:=nnH (q1+zs.length);obtain⟨q3,a0⟩:=nnH (ofy q2 Y m);have E1:H (mq1 n N=q1):=b0.out;have E2:H (mq2 n N zs=q2):=by show _=_;unfold mq2;rw[E1.out,c0.out]
 have E3:H (mq3 n N zs m Y=q3):=by show _=_;unfold mq3;rw[E2.out,a0.out]
 rw[E1.out,E2.out,E3.out];have r0:q3<=400000000:=by rw[<-E3.out];exact hs.kq
 have s0:q2<=400000000:=by have:=jKc q2 Y m;rw[a0.out] at this;omega
 have q0:q1<=400000000:=by have:=c0.out;omega
 have KM:H (Ak prog 91 #[V a n c,Ao Ar ((1:Nat):Int)] w0 _):=jDb B (V a n c) n N 1 (fun x=>F1 x/\x<A) w0 (nA h.n) hs.kn hs.kN (by rw[b0.out];exact q0);rw[b0.out] at KM;have KE:H (Ow w0 B (inD zs) (V l zs.length d) (fun x=>F2 x/\x<A)):=nA h.z;have KZ:H (Ow w0 B (qI m Y) (V e m g) (fun x=>F3 x/\x<A)):=nA h.y;have KD:H ((∀ g,F1 g->¬ F2 g)/\(∀ g,F1 g->¬ F3 g)/\∀ g,F2 g->¬ F3 g):=⟨h.d1,h.d2,h.d3⟩;have m0:H (Trn w w0 (fun x=>F1 x\/F2 x\/F3 x)):=Trn.ofBelow _ e0;have KS:H (NtW n N zs m Y):=hs;clear h hs e0 nA;go_enter func32,ntmps32
 go_wp2_with fail
 rw[<-d0.out,<-HA.out];refine Ax KM.out ?_;rintro e' w1 ⟨rfl,O1,T1⟩;have R1:Row w1 A 48 #[f,V a n c,V l zs.length d,V e m g]:=(T1.block A RA.lt (fun h=>Fo _ h.2)).trans RA;have x2:=R1.cell 2;simp at x2;have f0:Ow w1 B (inD zs) (V l zs.length d) (fun x=>F2 x/\x<A):=KE.turned T1 (fun g h1 h2=>KD.1 g h2.1 h1.1);have p0:H (Ow w1 B (qI m Y) (V e m g) (fun x=>F3 x/\x<A)):=KZ.turned T1 (fun g h1 h2=>KD.2.1 g h2.1 h1.1);have k0:H (Ow w1 B (qR n (XU 1 N)) (V a n c) (fun x=>F1 x/\x<A)):=O1;have n0:H (Trn w w1 (fun x=>F1 x\/F2 x\/F3 x)):=m0.trans (T1.mono (fun g h=>.inl h.1));have g0:H (Row w1 A 48 #[f,V a n c,V l zs.length d,V e m g]):=R1;have j0:H _:=JH B (V l zs.length d) zs q1 q2 (fun x=>F2 x/\x<A) w1 f0 KS.kz (by omega) c0.out;clear T1 O1 f0 R1;go_wp2_with fail
 refine Ax j0.out ?_;rintro e' w2 ⟨rfl,O2,T2⟩;have R2:Row w2 A 48 #[f,V a n c,V l zs.length d,V e m g]:=(T2.block A g0.lt (fun h=>Fo _ h.2)).trans g0;have x3:=R2.cell 3;simp at x3;have i0:H (Ow w2 B (qR n (XU 1 N)) (V a n c) (fun x=>F1 x/\x<A)/\Ow w2 B (inD (jW q1 zs.length)) (V l zs.length d) (fun x=>F2 x/\x<A)):=⟨k0.turned T2 (fun g h1 h2=>KD.1 g h1.1 h2.1),O2⟩;have Z2:Ow w2 B (qI m Y) (V e m g) (fun x=>F3 x/\x<A):=p0.turned T2 (fun g h1 h2=>KD.2.2 g h2.1 h1.1);have o0:H (Trn w w2 (fun x=>F1 x\/F2 x\/F3 x)):=n0.trans (T2.mono (fun g h=>.inr (.inl h.1)));have h0:H _:=jDc B (V e m g) m Y q2 (fun x=>F3 x/\x<A) w2 Z2 KS.km KS.kY (by rw[a0.out];exact r0);rw[a0.out] at h0;clear T2 O2 Z2 R2 x2;go_wp2_with fail
 refine Ax h0.out ?_;rintro e' w3 ⟨rfl,O3,T3⟩;have KF:H (NtO w3 B n (XU 1 N) (jW q1 zs.length) m (zG q2 Y) (V a n c) (V l zs.length d) (V e m g) F1 F2 F3/\Trn w w3 (fun x=>F1 x\/F2 x\/F3 x)):=by
  refine⟨⟨?_,?_,?_,KD.1,KD.2.1,KD.2.2⟩,o0.trans (T3.mono (fun g h=>.inr (.inr h.1)))⟩
  .exact(i0.1.turned T3 (fun g h1 h2=>KD.2.1 g h1.1 h2.1)).mono (fun g h=>h.1)
  .exact(i0.2.turned T3 (fun g h1 h2=>KD.2.2 g h1.1 h2.1)).mono (fun g h=>h.1)
  .exact O3.mono (fun g h=>h.1)
 clear T3 O3 x3;go_wp2
 go_ret
 exact⟨rfl,KF.1,KF.2⟩
theorem jHq (f:Int) (n:Nat) (N:Nat->Nd) (zs:List Int) (m:Nat) (Y:Nat->Sy) (a l e:OA) (c d g:Nat) (w:Ad) (h1:Rd w (qR n (XU 1 N)) (V a n c)) (h2:jH w l zs.length (jW (mq1 n N) zs.length)) (h3:Rd w (qI m (zG (mq2 n N zs) Y)) (V e m g)) (hs:NtK n N zs m Y):CB 34 #[ntV f (V a n c) (V l zs.length d) (V e m g),(1:Int)] w (Ao Ar ((mq3 n N zs m Y:Nat):Int)):=by
 obtain⟨A,HA⟩:=nmH w.1.size;obtain⟨w0,e0⟩:=nmH (w.alloc (J #[f,V a n c,V l zs.length d,V e m g] 48));have RA:=jZ e0 HA;have a0:=bl1 e0;obtain⟨q1,c0⟩:=nnH (1+tot (fun i=>wkN (N i)) n);obtain⟨q2,d0⟩:=nnH (q1+zs.length);obtain⟨q3,b0⟩:=nnH (ofy q2 Y m);have E1:H (mq1 n N=q1):=c0.out;have E2:H (mq2 n N zs=q2):=by show _=_;unfold mq2;rw[E1.out,d0.out]
 have E3:H (mq3 n N zs m Y=q3):=by show _=_;unfold mq3;rw[E2.out,b0.out]
 rw[E3.out];rw[E1.out] at h2;rw[E2.out] at h3;have i0:q3<=400000000:=by rw[<-E3.out];exact hs.kq
 have j0:q2<=400000000:=by have:=jKc q2 Y m;rw[b0.out] at this;omega
 have h0:q1<=400000000:=by have:=d0.out;omega
 have KM:H (Ak prog 95 #[V a n c,Ao Ar ((1:Nat):Int)] w0 _):=jC4 a n c N 1 w0 (h1.below a0) hs.kn hs.kN (by rw[c0.out];exact h0);rw[c0.out] at KM;have KE:H (∀ W,Ab w0 w0 W->CS 96 #[V l zs.length d,(q1:Int)] W (q2:Int)):=fun W hW=>jJo l zs.length d q1 q2 W ((h2.below a0).below hW) hs.kz (by omega) d0.out
 have KZ:H (∀ W,Ab w0 w0 W->CB 97 #[V e m g,(q2:Int)] W (q3:Int)):=fun W hW=>by have:=jC6 e m g Y q2 W ((h3.below a0).below hW) hs.km hs.kY (by rw[b0.out];exact i0);rw[b0.out] at this;exact this
 have g0:H (Ab w w w0):=a0;have n1:¬ ((q1:Int)<0):=by omega
 have n2:¬ ((q2:Int)<0):=by omega
 have n3:¬ ((q3:Int)<0):=by omega
 clear h1 h2 h3 hs a0;go_enter func34,ntmps34
 go_wp2_with fail
 rw[<-e0.out,<-HA.out];refine CM KM.out fun w1 b1=>?_
 have R1:=RA.below b1 RA.lt;obtain⟨x2,x3⟩:=R1.c2 2 3;simp at x2 x3;have f0:H (Ab w0 w0 w1):=b1;clear b1 R1;go_wp2_with fail
 refine CM (KE _ f0) fun w2 hw=>?_
 obtain rfl:=hw.symm;clear hw;go_wp2_with fail
 refine CM (KZ _ f0) fun w2 b2=>?_
 go_wp2
 go_ret
 exact⟨rfl,jA g0 (jA f0 b2)⟩
theorem NtO.below {w w':Ad} {B n m:Nat} {N:Nat->Nd} {zs:List Int} {Y:Nat->Sy} {v1 v2 v3:Aj} {F1 F2 F3:Nat->Prop} (h:NtO w B n N zs m Y v1 v2 v3 F1 F2 F3) (hb:Ab w w w'):NtO w' B n N zs m Y v1 v2 v3 F1 F2 F3:=⟨h.n.below hb,h.z.below hb,h.y.below hb,h.d1,h.d2,h.d3⟩
theorem NtO.cut {w:Ad} {B n m:Nat} {N:Nat->Nd} {zs:List Int} {Y:Nat->Sy} {v1 v2 v3:Aj} {F1 F2 F3:Nat->Prop} (h:NtO w B n N zs m Y v1 v2 v3 F1 F2 F3):∃ G1 G2 G3,NtO w B n N zs m Y v1 v2 v3 G1 G2 G3/\∀ g,G1 g\/G2 g\/G3 g->B<=g/\g<w.1.size:=
 ⟨_,_,_,⟨h.n.cut,h.z.cut,h.y.cut,fun g a b=>h.d1 g a.1 b.1,fun g a b=>h.d2 g a.1 b.1,fun g a b=>h.d3 g a.1 b.1⟩,fun g hg=>by rcases hg with hg|hg|hg <;> exact hg.2⟩
theorem jDg (B g j n cap K:Nat) (J:Nat->Nat->Aj) (F:Nat->Prop) (S:Nat->Sy) (k:Nat) (w:Ad) (h:Ow w B (.lst 31 10 (j+n) (jk j J (fun i=>syD (S i)))) (V g (j+n) K) F) (_hn:n<=1048576) (hm:∀ i,i<n->(S i).p.m<=1048576) (hk:ofy k S n<=400000000):Ak prog 93 #[V (Q g (j*10) I) n cap,(k:Int)] w fun e w'=>e=Ae (Ao Ar ((ofy k S n:Nat):Int))/\Ow w' B (.lst 31 10 (j+n) (jk j J (fun i=>syD (zG k S i)))) (V g (j+n) K) F/\Trn w w' F:=by
 obtain⟨p,HP⟩:=nnH (j*10);rw[HP.out];obtain⟨G,e0,m2⟩:=Ow.mk h;have KS:H (Sep g (j+n) 10 G F):=e0;have HG:H (F g):=e0.head _ rfl;have K0:H (MkS w B 31 10 g (j+n) K G (jk j J (fun i=>if i<0 then syD (zG k S i) else syD (S i)))):=m2.congr (fun i q _ _=>by simp[jk]);have HM:H (∀ i,i<n->(S i).p.m<=1048576):=hm;clear h hm e0 m2;go_enter func93,ntmps93
 go_wp2
 go_loopw [1,5] (fun vk vi wr=>∃ c:Nat,c<=n/\vk=Ao Ar ((ofy k S c:Nat):Int)/\vi=Ao Ar (c:Int)/\MkS wr B 31 10 g (j+n) K G (jk j J (fun i=>if i<c then syD (zG k S i) else syD (S i)))/\Trn w wr F) (fun _ vi _=>n-(intOf vi).toNat)
 case atStart=>exact⟨0,Bi _,rfl,rfl,K0,Trn.refl _ _⟩
 case round=>
  obtain⟨c,z2,rfl,rfl,n2,p2⟩:=hrel;clear K0;have KO:H (MkS wr B 31 10 g (j+n) K G (jk j J (fun i=>if i<c then syD (zG k S i) else syD (S i)))/\Trn w wr F):=⟨n2,p2⟩;clear n2 p2;by_cases hlt:c<n
  .have a3:(c:Int)<(n:Int):=by omega
   have a0:j+c<j+n:=by omega
   have EP:H ((j+c)*10=p+c*10):=by have:=HP.out;show _=_;omega
   obtain⟨o0,g0⟩:=nnH (ofy k S c);have ho:o0+9+(S c).p.m<=400000000:=by rw[<-g0.out];exact By (jGg k S (show c+1<=n by omega)) hk
   have r1:H (ofy k S (c+1)=o0+9+(S c).p.m):=by show ofy k S c+9+(S c).p.m=_;rw[g0.out]
   have v2:=HM c hlt;rw[g0.out];obtain⟨o1,h0⟩:=nmH (o0+1);obtain⟨o2,i0⟩:=nmH (o0+2);obtain⟨o3,HO3⟩:=nmH (o0+3);obtain⟨o4,j0⟩:=nmH (o0+4);obtain⟨o5,k0⟩:=nmH (o0+5);obtain⟨o6,m0⟩:=nmH (o0+6);obtain⟨o7,n0⟩:=nmH (o0+7);obtain⟨o8,p0⟩:=nmH (o0+8);obtain⟨o9,q0⟩:=nmH (o0+9);have e1:(o0:Int)+1=(o1:Int):=by have:=h0.out;omega
   have e2:(o1:Int)+1=(o2:Int):=by have:=i0.out;have:=h0.out;omega
   have e3:(o2:Int)+1=(o3:Int):=by have:=HO3.out;have:=i0.out;omega
   have e4:(o3:Int)+1=(o4:Int):=by have:=j0.out;have:=HO3.out;omega
   have e5:(o4:Int)+1=(o5:Int):=by have:=k0.out;have:=j0.out;omega
   have e6:(o5:Int)+1=(o6:Int):=by have:=m0.out;have:=k0.out;omega
   have e7:(o6:Int)+1=(o7:Int):=by have:=n0.out;have:=m0.out;omega
   have e8:(o7:Int)+1=(o8:Int):=by have:=p0.out;have:=n0.out;omega
   have e9:(o8:Int)+1=(o9:Int):=by have:=q0.out;have:=p0.out;omega
   obtain⟨m,i1⟩:=nnH ((S c).p.m);rw[i1.out] at ho v2 r1;obtain⟨q6,s1⟩:=nnH (o9+m);have u0:o0<=400000000:=by omega
   have u1:o1<=400000000:=by have:=h0.out;omega
   have u2:o2<=400000000:=by have:=i0.out;omega
   have u3:o3<=400000000:=by have:=HO3.out;omega
   have u4:o4<=400000000:=by have:=j0.out;omega
   have u5:o5<=400000000:=by have:=k0.out;omega
   have u6:o6<=400000000:=by have:=m0.out;omega
   have u7:o7<=400000000:=by have:=n0.out;omega
   have u8:o8<=400000000:=by have:=p0.out;omega
   have u9:o9<=400000000:=by have:=q0.out;omega
   obtain⟨s3,t1⟩:=nnH (vT o3);have q2:H (∀ W,CB 98 #[(o3:Int)] W s3):=fun W=>by rw[<-t1.out];exact jM o3 W (by omega)
   obtain⟨s4,v1⟩:=nnH (vT o4);have r2:H (∀ W,CB 98 #[(o4:Int)] W s4):=fun W=>by rw[<-v1.out];exact jM o4 W (by omega)
   obtain⟨s8,y1⟩:=nnH (vT o8);have s2:H (∀ W,CB 98 #[(o8:Int)] W s8):=fun W=>by rw[<-y1.out];exact jM o8 W (by omega)
   clear hk ho;obtain⟨g3,x0,f0,_⟩:=MkS.cell KO.1 a0 (show 0<10 by omega);rw[EP.out] at x0 f0;obtain⟨h3,x1,f1,_⟩:=MkS.cell KO.1 a0 (show 1<10 by omega);rw[EP.out] at x1 f1;obtain⟨i3,x2,f2,_⟩:=MkS.cell KO.1 a0 (show 2<10 by omega);rw[EP.out] at x2 f2;simp only[Cp] at x0 f0 x1 f1 x2 f2;obtain⟨W1,j1⟩:=nmH ((((wr.setCell (Q g (p+c*10) I) (o0:Int)).setCell (Q g (p+c*10+1) I) (o1:Int)).setCell (Q g (p+c*10+2) I) (o2:Int)));have M1:=KO.1;have M1:=MkS.set M1 KS a0 (show 0<10 by omega) (o0:Int);rw[Cp] at M1;have M1:=MkS.set M1 KS a0 (show 1<10 by omega) (o1:Int);have M1:=MkS.set M1 KS a0 (show 2<10 by omega) (o2:Int);rw[EP.out,<-j1.out] at M1;have s0:H (MkS W1 B 31 10 g (j+n) K G _):=M1;clear M1;have z0:H (Trn w W1 F):=by show Trn _ _ _;rw[j1.out];exact(((KO.2.trans (Trn.set _ (p+c*10) _ HG)).trans (Trn.set _ (p+c*10+1) _ HG)).trans (Trn.set _ (p+c*10+2) _ HG))
   go_wp2_with fail
   rw[<-j1.out];clear x0 f0 x1 f1 x2 f2;refine CM (q2 _) fun w1 b1=>?_
   have y0:H (MkS w1 B 31 10 g (j+n) K G _):=MkS.below s0 b1;have a2:H (Trn w w1 F):=z0.trans (Trn.ofBelow F b1);clear b1 s0 z0;obtain⟨j3,x3,f3,_⟩:=MkS.cell y0 a0 (show 3<10 by omega);rw[EP.out] at x3 f3;obtain⟨W2,k1⟩:=nmH ((w1.setCell (Q g (p+c*10+3) I) s3));have M2:=y0.out;have M2:=MkS.set M2 KS a0 (show 3<10 by omega) s3;rw[EP.out,<-k1.out] at M2;have t0:H (MkS W2 B 31 10 g (j+n) K G _):=M2;clear M2;have a1:H (Trn w W2 F):=by show Trn _ _ _;rw[k1.out];exact(a2.trans (Trn.set _ (p+c*10+3) _ HG))
   go_wp2_with fail
   rw[<-k1.out];clear x3 f3;refine CM (r2 _) fun w2 b2=>?_
   have b0:H (MkS w2 B 31 10 g (j+n) K G _):=MkS.below t0 b2;have g2:H (Trn w w2 F):=a1.trans (Trn.ofBelow F b2);clear b2 t0 a1;obtain⟨k3,x4,f4,_⟩:=MkS.cell b0 a0 (show 4<10 by omega);rw[EP.out] at x4 f4;obtain⟨l3,x5,f5,_⟩:=MkS.cell b0 a0 (show 5<10 by omega);rw[EP.out] at x5 f5;obtain⟨m3,x6,f6,_⟩:=MkS.cell b0 a0 (show 6<10 by omega);rw[EP.out] at x6 f6;obtain⟨n3,x7,f7,_⟩:=MkS.cell b0 a0 (show 7<10 by omega);rw[EP.out] at x7 f7;obtain⟨W3,m1⟩:=nmH (((((w2.setCell (Q g (p+c*10+4) I) s4).setCell (Q g (p+c*10+5) I) (o5:Int)).setCell (Q g (p+c*10+6) I) (o6:Int)).setCell (Q g (p+c*10+7) I) (o7:Int)));have M3:=b0.out;have M3:=MkS.set M3 KS a0 (show 4<10 by omega) s4;have M3:=MkS.set M3 KS a0 (show 5<10 by omega) (o5:Int);have M3:=MkS.set M3 KS a0 (show 6<10 by omega) (o6:Int);have M3:=MkS.set M3 KS a0 (show 7<10 by omega) (o7:Int);rw[EP.out,<-m1.out] at M3;have v0:H (MkS W3 B 31 10 g (j+n) K G _):=M3;clear M3;have c1:H (Trn w W3 F):=by show Trn _ _ _;rw[m1.out];exact((((g2.trans (Trn.set _ (p+c*10+4) _ HG)).trans (Trn.set _ (p+c*10+5) _ HG)).trans (Trn.set _ (p+c*10+6) _ HG)).trans (Trn.set _ (p+c*10+7) _ HG))
   go_wp2_with fail
   rw[<-m1.out];clear x4 f4 x5 f5 x6 f6 x7 f7;refine CM (s2 _) fun w3 b3=>?_
   have d0:H (MkS w3 B 31 10 g (j+n) K G _):=MkS.below v0 b3;have i2:H (Trn w w3 F):=c1.trans (Trn.ofBelow F b3);clear b3 v0 c1;obtain⟨p3,x8,f8,_⟩:=MkS.cell d0 a0 (show 8<10 by omega);rw[EP.out] at x8 f8;obtain⟨v9,x9,_,y2⟩:=MkS.cell d0 a0 (show 9<10 by omega);rw[EP.out] at x9;obtain⟨W4,r0⟩:=nmH ((w3.setCell (Q g (p+c*10+8) I) s8));have M4:=d0.out;have M4:=MkS.set M4 KS a0 (show 8<10 by omega) s8;rw[EP.out,<-r0.out] at M4;have w0:H (MkS W4 B 31 10 g (j+n) K G _):=M4;clear M4;have j2:H (Trn w W4 F):=by show Trn _ _ _;rw[r0.out];exact(i2.trans (Trn.set _ (p+c*10+8) _ HG))
   obtain⟨c0,p1,_,g1⟩:=MkS.cell w0 a0 (show 9<10 by omega);have ev:c0=v9:=by
    have h1:=p1;rw[EP.out] at h1;rw[r0.out,C9 _ _ _ _ (by simp)] at h1;exact Ee (h1.symm.trans x9)
   subst ev;have q1:H (Ow W4 B (txD m (S c).p.S) c0 (G (j+c) 9)):=by
    have:=g1
    show Ow _ _ _ _ _;rw[<-i1.out];unfold jk at this;rw[A5 (show ¬ j+c<j by omega),Ft] at this;simpa [syD] using this
   have z1:H _:=QP B c0 m (S c).p.S o9 q6 (G (j+c) 9) W4 q1 (by omega) (by omega) s1.out;have X9:H (W4.cell? (Q g (p+c*10+9) I)=M c0):=by show _=_;rw[<-EP.out];exact p1
   have t2:H (W4.cell? (Q g ((j+c)*10+9) I)=M c0):=by show _=_;rw[EP.out];exact X9
   clear y2 g1 p1;obtain⟨a9,c9,e9⟩:∃ a9 c9,c0=V a9 m c9:=by
    obtain⟨a,cp,e,_⟩:=jEf q1;exact⟨a,cp,e⟩
   subst e9;go_wp2_with fail
   rw[<-r0.out];refine Ax z1.out ?_;rintro e w9 ⟨rfl,k2,n1⟩;have M9:=MkS.turn w0 KS a0 (show 9<10 by omega) t2.out k2 n1;have KT9:H (Trn w w9 F):=j2.trans (n1.mono (fun x hx=>KS.sub (j+c) 9 x a0 (by omega) hx));have HN:H (MkS w9 B 31 10 g (j+n) K G (jk j J (fun i=>if i<c+1 then syD (zG k S i) else syD (S i)))):=by
    refine MkS.congr M9 fun i q hi hq=>?_
    by_cases ei:i=j+c
    .subst ei;have hd:zG k S c=⟨(o0:Int),(o1:Int),(o2:Int),s3,⟨s4,(o5:Int),(o6:Int),(o7:Int),s8,m,fun j=>vT (o9+j)⟩⟩:=by
      unfold zG;rw[g0.out,<-h0.out,<-i0.out,<-HO3.out,<-j0.out,<-k0.out,<-m0.out,<-n0.out,<-p0.out,<-q0.out,t1.out,v1.out,y1.out,i1.out]
     have er:jk j J (fun i=>if i<c+1 then syD (zG k S i) else syD (S i)) (j+c) q=syD (zG k S c) q:=by unfold jk;rw[A5 (by omega),Ft];show (if c<c+1 then syD (zG k S c) else syD (S c)) q=_;rw[A6 (by omega)]
     rw[er,hd];match q,hq with
     | 0,_|1,_|2,_|3,_|4,_|5,_|6,_|7,_|8,_|9,_=>simp[syD]
    .have er:jk j J (fun i=>if i<c+1 then syD (zG k S i) else syD (S i)) i q=jk j J (fun i=>if i<c then syD (zG k S i) else syD (S i)) i q:=by
      unfold jk;by_cases e1:i<j
      .rw[A6 e1,A6 e1]
      .rw[A5 e1,A5 e1];show (if i-j<c+1 then syD (zG k S (i-j)) else syD (S (i-j))) q=(if i-j<c then syD (zG k S (i-j)) else syD (S (i-j))) q;by_cases e2:i-j<c
       .rw[A6 (show i-j<c+1 by omega),A6 e2]
       .rw[A5 (show ¬ i-j<c+1 by omega),A5 e2]
     rw[er];simp[ei]
   have HQQ:H ((q6:Int)=((ofy k S (c+1):Nat):Int)):=by show _=_;rw[r1.out,<-s1.out,q0.out]
   clear M9 k2 n1 z1 x8 f8 x9;go_wp2
   go_roundw
   case rel=>exact⟨c+1,by omega,by rw[HQQ.out],by go_num,HN.out,KT9.out⟩
   case measure=>simp[intOf];omega
  .obtain rfl:c=n:=by omega
   have HN:H (MkS wr B 31 10 g (j+c) K G (jk j J (fun i=>syD (zG k S i)))):=KO.1.congr (fun i q hi _=>by unfold jk;by_cases e:i<j;rw[A6 e,A6 e];rw[A5 e,A5 e];show (if i-j<c then syD (zG k S (i-j)) else syD (S (i-j))) q=_;rw[A6 (show i-j<c by omega)]);go_wp2
   go_ret
   exact⟨rfl,HN.ow KS,KO.2⟩
theorem jJ1 (B:Nat) (v:Aj) (n:Nat) (S:Nat->Sy) (k:Nat) (F:Nat->Prop) (w:Ad) (h:OwK w B 31 10 n (fun i=>syD (S i)) v F) (hn:n<=1048576) (hm:∀ i,i<n->(S i).p.m<=1048576) (hk:ofy k S n<=400000000):Ak prog 93 #[v,(k:Int)] w fun e w'=>e=Ae (Ao Ar ((ofy k S n:Nat):Int))/\OwK w' B 31 10 n (fun i=>syD (zG k S i)) v F/\Trn w w' F:=by
 rcases h with ⟨rfl,rfl⟩|⟨g,j,cap,K,J,h1,h2,rfl,h4⟩
 .refine(jDc B (V I 0 0) 0 S k F w (Ow.nil _ _ _ _ _ _) (by omega) (fun i hi=>Bo hi (Bk i)) hk).mono ?_;rintro e w' ⟨rfl,_,t⟩;exact⟨rfl,.inl ⟨rfl,rfl⟩,t⟩
 .refine(jDg B g j n cap K J F S k w h4 hn hm hk).mono ?_;rintro e w' ⟨rfl,o,t⟩;exact⟨rfl,.inr ⟨g,j,cap,K,J,h1,h2,rfl,o⟩,t⟩
def syO:Sy:=⟨0,0,0,Ap,⟨Ap,0,0,0,Ap,0,fun _=>Ap⟩⟩
def ndsZ (m:Nat):Dt:=.lst 26 3 m (fun _=>ndD ndN)
abbrev ntZ:Array Aj:=#[Ao Ar 0,V I 0 0,V I 0 0,V I 0 0]
structure N3 (W0:Ad) (m:Nat) (zs:List Int) (p2 p3 p5 p6 p8:Bool) (x20 x21 x23 x24 x6:Aj) (W:Ad) (F1 F2 F3 F4:Nat->Prop):Prop where
 bw:Ab W0 W0 W
 c2:p2=Aw->x20=Ao Ar (m:Int)
 bd:∀ g,F1 g\/F2 g\/F3 g\/F4 g->W0.1.size<=g/\g<W.1.size
 d1:∀ g,F1 g->¬ F2 g/\¬ F3 g/\¬ F4 g
 d2:∀ g,F2 g->¬ F3 g/\¬ F4 g
 d3:∀ g,F3 g->¬ F4 g
 c3:p3=Aw->∃ g1,x21=V (Q g1 0 I) m m/\Ow W W0 (ndsZ m) x21 F1
 c5:p5=Aw->∃ a2 c2,x23=V a2 zs.length c2/\Ow W W0 (inD zs) x23 F2
 c6:p6=Aw->∃ g3,x24=V (Q g3 0 I) 0 0/\Ow W W0 (qI 0 (fun _=>syO)) x24 F3
 c8:p8=Aw->∃ G,x6=Af (Q G 0 I)/\Row W G 48 ntZ/\F4 G
section
variable {W0 W W':World} {m:Nat} {zs:List Int} {p2 p3 p5 p6 p8:Bool} {x20 x21 x23 x24 x6:Value}
end
end
section
section
variable {w4 W W':World} {bg G:Nat} {fx:Int} {m:Nat} {N N':Nat->Nd} {zs zs':List Int} {Y Y':Nat->Sy} {b1 b2 b3:Option Addr} {d1 l2 d2 d3:Nat}
end
end
def bk (a f:Int):Aj:=Ai #[a,f]
theorem ZH (a f:Int) (em:Bool) (w:Ad):(Instr.checkKey em 10000 122 (bk a f)).run prog w=.ok () w:=by rfl
theorem jBj (a b f:Int) (w:Ad):(Op.equal 122 (bk a f) (bk b f)).run prog w=.ok (decide (a=b)) w:=by
 have u3:=Dd;have hS:Tryz.prog.underlying 122=M (.struct (Tryz.prog.fieldsOf 122)):=by kernel_rfl
 unfold Op.equal Op.maxDepth bk;rw[show (10000:Nat)=9999+1 from rfl,run_equalIn_struct w 9999 122 _ _ hS (by kernel_rfl)];simp only[Program.fieldsOf,underlying122];go_simp
 by_cases h:a=b <;> simp[h]
theorem jL7 (a f:Int) (w:Ad):(Instr.keyThatStays (bk a f) (bk a f)).run prog w=.ok (bk a f) w:=by
 have h:Instr.sameBits 10000 (bk a f) (bk a f)=Aw:=by
  show ((2:Nat)==2&&_)=Aw;simp[Instr.sameBits]
 simp[Instr.keyThatStays,h]
theorem jIz {a b f:Int} (h:bk a f=bk b f):a=b:=by
 unfold bk at h;simp at h;exact h
theorem jEm (x f:Int):∀ (es:List MapEntry),(∀ e∈es,∃ a,e.key=bk a f)->((∀ w,(Instr.findKey 122 (bk x f) es).run prog w=.ok I w)/\∀ e∈es,e.key≠bk x f)\/∃ j e,(∀ w,(Instr.findKey 122 (bk x f) es).run prog w=.ok (M (j,e.val)) w)/\es[j]?=M e/\e.key=bk x f:=by
 have b0:∀ (es:List MapEntry) (i:Nat),(∀ e∈es,∃ a,e.key=bk a f)->((∀ w,(Instr.findAsking 122 (bk x f) es i).run prog w=.ok I w)/\∀ e∈es,e.key≠bk x f)\/∃ j e,(∀ w,(Instr.findAsking 122 (bk x f) es i).run prog w=.ok (M (i+j,e.val)) w)/\es[j]?=M e/\e.key=bk x f:=by
  intro es;induction es with
  | nil=>intro i _;exact .inl ⟨fun w=>rfl,fun e he=>by cases he⟩
  | cons e r ih=>
   intro i hk;obtain⟨a,ha⟩:=hk e (by simp);by_cases hx:x=a
   .refine .inr ⟨0,e,fun w=>?_,rfl,by rw[ha,hx]⟩;simp[Instr.findAsking,ha,jBj,hx]
   .have c0:e.key≠bk x f:=fun h=>hx (jIz (ha.symm.trans h)).symm
    rcases ih (i+1) (fun e' a0=>hk e' (by simp[a0])) with ⟨h1,h2⟩|⟨j,e',h1,h2,h3⟩
    .refine .inl ⟨fun w=>?_,fun e' a0=>?_⟩
     .simp[Instr.findAsking,ha,jBj,hx,h1]
     .rcases G0.1 a0 with rfl|a0
      .exact c0
      .exact h2 e' a0
    .refine .inr ⟨j+1,e',fun w=>?_,by simpa using h2,h3⟩;simp[Instr.findAsking,ha,jBj,hx,h1];omega
 intro es hk;have hu:Tryz.prog.underlying 122=M (.struct (Tryz.prog.fieldsOf 122)):=by kernel_rfl
 cases es with
 | nil=>exact .inl ⟨fun w=>by simp[Instr.findKey,Ff hu,Instr.findNow],fun e he=>by cases he⟩
 | cons e r=>
  have hn:Instr.findNow (.struct (Tryz.prog.fieldsOf 122)) (bk x f) (e::r) 0=I:=rfl;rcases b0 (e::r) 0 hk with ⟨h1,h2⟩|⟨j,e',h1,h2,h3⟩
  .exact .inl ⟨fun w=>by simp[Instr.findKey,Ff hu,hn,h1],h2⟩
  .refine .inr ⟨j,e',fun w=>?_,h2,h3⟩;simp[Instr.findKey,Ff hu,hn,h1]
section
open Go.ChangeShapes Go.WideShapes Go.ChangeAt Go.RowKit Go.ChangeMaps Go.MapKept Go.WideElems
structure LE (f:Int) (zs:List Int) (es:Array MapEntry) (clock:Nat):Prop where
 ks:∀ e∈es.toList,∃ a c,e.key=bk a f/\e.val=Ao Ar c/\1<=c/\c<=(zs.length:Int)/\a∈zs
 all:∀ a∈zs,∃ e∈es.toList,e.key=bk a f
 st:∀ e∈es.toList,e.born<clock
 nd:(es.toList.map (·.born)).Nodup
theorem LE.keys {f:Int} {zs:List Int} {es:Array MapEntry} {a0:Nat} (h:LE f zs es a0):∀ e∈es.toList,∃ a,e.key=bk a f:=fun e he=>by
 obtain⟨a,_,h1,_⟩:=h.ks e he;exact⟨a,h1⟩
def LM (w:Ad) (b:Nat) (f:Int) (zs:List Int):Prop:=∃ es clock,w.1[b]?=M (.map es clock)/\LE f zs es clock
theorem jRs (f:Int):LE f [] #[] 0:=⟨(fun e he=>by simp at he),(fun a ha=>Bo ha (by simp)),(fun e he=>by simp at he),(by simp)⟩
theorem jF1:Tryz.prog.underlying 176=M (.map 122 3):=by kernel_rfl
theorem jBu {w:Ad} {b:Nat} {es:Array MapEntry} {a0:Nat} (hb:w.1[b]?=M (.map es a0)) {x f:Int} {j:Nat} {e:MapEntry} (h1:∀ w,(Instr.findKey 122 (bk x f) es.toList).run prog w=.ok (M (j,e.val)) w):(Instr.lookup 176 (.map (M b)) (bk x f) Av).run prog w=.ok e.val w:=by
 simp[Instr.lookup,Ff jF1,Eh hb,ZH,h1,Result.andThen]
theorem jJw {w:Ad} {b:Nat} {es:Array MapEntry} {a0:Nat} (hb:w.1[b]?=M (.map es a0)) {x f:Int} (h1:∀ w,(Instr.findKey 122 (bk x f) es.toList).run prog w=.ok I w):(Instr.lookup 176 (.map (M b)) (bk x f) Av).run prog w=.ok () w:=by
 simp[Instr.lookup,Ff jF1,Eh hb,ZH,h1,Result.andThen]
theorem jP1 {w:Ad} {b:Nat} {f:Int} {zs:List Int} (h:LM w b f zs) (x:Int):∃ c:Int,(Instr.lookup 176 (.map (M b)) (bk x f) Av).run prog w=.ok c w/\(0<c↔x∈zs):=by
 obtain⟨es,a0,hb,hl⟩:=h;rcases jEm x f es.toList hl.keys with ⟨h1,h2⟩|⟨j,e,h1,h2,h3⟩
 .refine⟨0,jJw hb h1,⟨fun h=>Bo h (by omega),fun hx=>?_⟩⟩;obtain⟨e,he,hk⟩:=hl.all x hx;exact Bo hk (h2 e he)
 .obtain⟨a,c,k1,k2,k3,_,k5⟩:=hl.ks e (List.mem_of_getElem? h2);refine⟨c,by rw[jBu hb h1,k2],⟨fun _=>?_,fun _=>by omega⟩⟩;rw[<-jIz (k1.symm.trans h3)];exact k5
theorem jP2 {w:Ad} {b:Nat} {f:Int} {zs:List Int} (h:LM w b f zs) (x:Int):∃ (c:Int) (st:Nat) (i0:Array MapEntry) (b0:Nat) (j0:Array MapEntry) (c0:Nat),(∀ W,W.1[b]?=w.1[b]?->(Instr.lookup 176 (.map (M b)) (bk x f) Av).run prog W=.ok (Ao Ar c) W/\(Instr.mapEntry 176 (.map (M b)) (bk x f)).run prog W=.ok (Ah #[Ao Ar c,(st:Int)]) (setBlock W b (.map i0 b0)))/\(∀ W,W.1[b]?=M (.map i0 b0)->(Instr.lookup 176 (.map (M b)) (bk x f) Av).run prog W=.ok (Ao Ar c) W/\(Instr.entryStore 176 (.map (M b)) (st:Int) (c+1:Int)).run prog W=.ok () (setBlock W b (.map j0 c0)))/\0<=c/\c<=(zs.length:Int)/\LE f (zs++[x]) j0 c0:=by
 obtain⟨es,a0,hb,hl⟩:=h;rcases jEm x f es.toList hl.keys with ⟨h1,h2⟩|⟨j,e0,h1,h2,h3⟩
 .have q0:∀ e∈(es.push ⟨bk x f,(),a0⟩).toList,∃ a,e.key=bk a f:=fun e he=>by
   simp only[Ev,Fh,Eq] at he;rcases he with he|rfl
   .exact hl.keys e he
   .exact⟨x,rfl⟩
  have o0:((es.push ⟨bk x f,(),a0⟩).toList.map (·.born)).Nodup:=by
   simp only[Ev,Dw,Gy,G7];refine List.nodup_append.2 ⟨hl.nd,by simp,fun a ha c hc e1=>?_⟩;simp only[Eq] at hc;obtain⟨y,hy,rfl⟩:=List.mem_map.1 ha;have:=hl.st y hy
   omega
  refine⟨0,a0,es.push ⟨bk x f,(),a0⟩,a0+1,es.push ⟨bk x f,(1:Int),a0⟩,a0+1,fun W hW=>?_,fun W hW=>?_,by omega,by omega,?_⟩
  .rw[hb] at hW;refine⟨jJw hW h1,?_⟩;simp[Instr.mapEntry,Ff jF1,Eh hW,ZH,h1,Fx _ hW,Result.andThen,setBlock,goInt]
  .constructor
   .rcases jEm x f _ q0 with ⟨_,g2⟩|⟨j',e',g1,g2,g3⟩
    .exact Bo rfl (g2 ⟨bk x f,(),a0⟩ (by simp))
    .have he:=List.mem_of_getElem? g2;simp only[Ev,Fh,Eq] at he;rcases he with he|rfl
     .exact Bo g3 (h2 e' he)
     .exact jBu hW g1
   .have d0:(es.push ⟨bk x f,(),a0⟩).findIdx? (fun e=>((e.born:Nat):Int)==((a0:Nat):Int))=M es.size:=by
     rw[findIdx_arr];exact findIdx_born (l:=(es.push ⟨bk x f,(),a0⟩).toList) (j:=es.size) (e0:=⟨bk x f,(),a0⟩) o0 (by simp)
    have n0:(es.push ⟨bk x f,(),a0⟩).modify es.size (fun e=>{e with val:=Ao Ar 1})=es.push ⟨bk x f,(1:Int),a0⟩:=by
     apply Array.ext'
     rw[Array.toList_modify,Ev,Ev,<-Cw,modify_last]
    simp[Instr.entryStore,Eh hW,asInt,asIntOf,d0,n0,Fx _ hW,Result.andThen,setBlock]
  .refine⟨fun e he=>?_,fun a ha=>?_,fun e he=>?_,?_⟩
   .simp only[Ev,Fh,Eq] at he;rcases he with he|rfl
    .obtain⟨a,c,k1,k2,k3,k4,k5⟩:=hl.ks e he;exact⟨a,c,k1,k2,k3,by simp;omega,by simp[k5]⟩
    .exact⟨x,1,rfl,rfl,by omega,by simp;omega,by simp⟩
   .simp only[Fh,Eq] at ha;rcases ha with ha|rfl
    .obtain⟨e,he,hk⟩:=hl.all a ha;exact⟨e,by simp[he],hk⟩
    .exact⟨⟨bk a f,(1:Int),a0⟩,by simp,rfl⟩
   .simp only[Ev,Fh,Eq] at he;rcases he with he|rfl
    .have:=hl.st e he;omega
    .show a0<a0+1;omega
   .simpa using o0
 .have m0:=List.mem_of_getElem? h2;obtain⟨a,c,k1,k2,k3,k4,k5⟩:=hl.ks e0 m0;obtain rfl:a=x:=jIz (k1.symm.trans h3);have hj:es[j]?=M e0:=by simpa using h2
  have h0:es.modify j (fun e=>{e with key:=bk a f})=es:=by
   apply Array.ext'
   rw[Array.toList_modify,modify_eq_set _ _ _ _ h2];have:({e0 with key:=bk a f}:MapEntry)=e0:=by rw[<-h3]
   rw[this];exact set_self _ _ _ h2
  refine⟨c,e0.born,es,a0,es.modify j (fun e=>{e with val:=Ao Ar (c+1)}),a0,fun W hW=>?_,fun W hW=>?_,by omega,by omega,?_⟩
  .rw[hb] at hW;refine⟨by rw[jBu hW h1,k2],?_⟩;simp[Instr.mapEntry,Ff jF1,Eh hW,ZH,h1,hj,h3,jL7,h0,k2,Fx _ hW,Result.andThen,setBlock,goInt]
  .refine⟨by rw[jBu hW h1,k2],?_⟩;have d0:es.findIdx? (fun e=>((e.born:Nat):Int)==((e0.born:Nat):Int))=M j:=by
    rw[findIdx_arr];exact findIdx_born hl.nd h2
   simp[Instr.entryStore,Eh hW,asInt,asIntOf,d0,Fx _ hW,Result.andThen,setBlock]
  .have f0:(es.modify j (fun e=>{e with val:=Ao Ar (c+1)})).toList=es.toList.set j {e0 with val:=Ao Ar (c+1)}:=by
    rw[Array.toList_modify,modify_eq_set _ _ _ _ h2]
   have g0:∀ e∈(es.modify j (fun e=>{e with val:=Ao Ar (c+1)})).toList,e∈es.toList\/e={e0 with val:=Ao Ar (c+1)}:=fun e he=>by
    rw[f0] at he;exact List.mem_or_eq_of_mem_set he
   refine⟨fun e he=>?_,fun b' k0=>?_,fun e he=>?_,?_⟩
   .rcases g0 e he with he|rfl
    .obtain⟨a',c',g1,g2,g3,g4,g5⟩:=hl.ks e he;exact⟨a',c',g1,g2,g3,by simp;omega,by simp[g5]⟩
    .exact⟨a,c+1,k1,rfl,by omega,by simp;omega,by simp⟩
   .have p0:b'∈zs:=by
     simp only[Fh,Eq] at k0;rcases k0 with h|rfl
     .exact h
     .exact k5
    obtain⟨e,he,hk⟩:=hl.all b' p0;obtain⟨i,hi,rfl⟩:=List.getElem_of_mem he;by_cases ei:i=j
    .subst ei;have e1:es.toList[i]=e0:=by rw[Bj hi] at h2;exact Ee h2
     refine⟨{e0 with val:=Ao Ar (c+1)},?_,by rw[<-e1];exact hk⟩;rw[f0];exact D7.2 ⟨i,by simpa using hi,by simp⟩
    .refine⟨es.toList[i],?_,hk⟩;rw[f0];exact D7.2 ⟨i,by simpa using hi,by rw[List.getElem_set_ne (Cj ei)]⟩
   .rcases g0 e he with he|rfl
    .exact hl.st e he
    .exact hl.st e0 m0
   .rw[f0,List.map_set];have:(es.toList.map (·.born)).set j e0.born=es.toList.map (·.born):=set_self _ _ _ (by rw[Eb,h2];rfl)
    show ((es.toList.map (·.born)).set j e0.born).Nodup;rw[this];exact hl.nd
end
section
open Go.ChangeShapes Go.WideShapes Go.ChangeAt Go.RowKit Go.ChangeMaps
theorem JQ {B b:Nat} {w0 w:Ad} (h:Ab B w0 w) (hb:B<=b) (o:Obj):Ab B w0 (setBlock w b o):=
 ⟨h.os,h.tape,h.output,by show _<=(w.1.setIfInBounds b o).size;simp;exact h.size,fun j hj=>by
  show (w.1.setIfInBounds b o)[j]?=_;rw[Eo (by omega)];exact h.block j hj⟩
theorem jMp (f:Int) (v1 v3:Aj) (l:OA) (d:Nat) (zs:List Int) (w:Ad) (h:jH w l zs.length zs) (hn:zs.length<=1048576):Ak prog 131 #[ntV f v1 (V l zs.length d) v3] w fun e w'=>∃ b,e=Ae (.map (M b))/\LM w' b f zs/\w.1.size<=b/\Ab w w w':=by
 obtain⟨A,HA⟩:=nmH w.1.size;obtain⟨w0,f0⟩:=nmH (w.alloc (J #[f,v1,V l zs.length d,v3] 48));have RA:=jZ f0 HA;have k0:=bl1 f0;obtain⟨b,HB⟩:=nmH (w.1.size+1);have eb:b=w0.1.size:=by rw[HB.out,f0.out];simp
 obtain⟨w1,g0⟩:=nmH (w0.alloc (.map #[] 0));have m0:=bl1 g0;have HL1:H (LM w1 b f []/\Row w1 A 48 #[f,v1,V l zs.length d,v3]/\Ab w w w1):=⟨⟨#[],0,by rw[g0.out,eb];exact Cq w0 _,jRs f⟩,RA.below m0 RA.lt,jA k0 m0⟩;have n0:H (A<b/\w.1.size<=b/\w.1.size<=A):=⟨by rw[eb];exact RA.lt,by rw[eb];exact k0.size,by rw[HA.out];exact Ay _⟩;obtain⟨n,HN⟩:=nnH zs.length;have KI:H (∀ W,Ab w w W->jH W l n zs):=fun W hW=>by have:=h.below hW;rw[HN.out] at this;exact this
 rw[HN.out] at hn HL1 RA f0 |-;have x2:=HL1.2.1.cell 2;simp at x2;have u0:∀ W,(Instr.makeMap 176 I).run prog W=.ok (.map (M W.1.size)) (W.alloc (.map #[] 0)):=fun W=>rfl
 clear h k0 m0 eb;rw[f0.out] at g0;go_enter func131,ntmps131
 go_wp2
 rw[<-g0.out,<-HB.out,<-HA.out];go_loopw [10,5] (fun vi _ wr=>∃ k:Nat,k<=n/\vi=Ao Ar (k:Int)/\H (LM wr b f (zs.take k)/\Row wr A 48 #[f,v1,V l n d,v3]/\Ab w w wr)) (fun vi _ _=>n-(intOf vi).toNat)
 case atStart=>exact⟨0,Bi _,rfl,HL1⟩
 case round=>
  obtain⟨k,hk,rfl,HR⟩:=hrel;clear HL1 u0 x2;by_cases hlt:k<n
  .have y0:(k:Int)<(n:Int):=by omega
   obtain⟨bl,off,rfl,hc⟩:=(KI _ HR.2.2).some (by omega);have x1:=hc k hlt;obtain⟨x,HX⟩:=nnH (zs.getD k 0);rw[HX.out] at x1;clear hc;have x0:=HR.2.1.cell 0;simp at x0;obtain⟨c,st,d0,a0,e0,b0,q1,q2,c0,cl,q0⟩:=jP2 HR.1 x;have s0:H (zs.take (k+1)=zs.take k++[x]):=by show _=_;rw[XC zs k (by rw[HN.out];exact hlt),HX.out]
   have i0:(zs.take k).length=k:=by rw[Cu,HN.out];omega
   rw[i0] at cl;have t0:wr.1[b]?≠I:=by
    obtain⟨es,j0,e,_⟩:=HR.1;rw[e];simp
   have e1:=(q1 wr.drew rfl).1;have e2:=(q1 wr.drew rfl).2;have h0:(setBlock wr.drew b (.map d0 a0)).1[b]?=M (.map d0 a0):=by
    show (wr.1.setIfInBounds b _)[b]?=_;obtain⟨es,j0,e,_⟩:=HR.1;simp[(Bz.1 e).1]
   have e3:=(q2 _ h0).1;have e4:=(q2 _ h0).2;have p0:(setBlock (setBlock wr.drew b (.map d0 a0)) b (.map e0 b0)).1[b]?=M (.map e0 b0):=by
    show ((setBlock wr.drew b (.map d0 a0)).1.setIfInBounds b _)[b]?=_;simp[(Bz.1 h0).1]
   have o0:=n0.out;have HR2:H (LM (setBlock (setBlock wr.drew b (.map d0 a0)) b (.map e0 b0)) b f (zs.take (k+1))/\Row (setBlock (setBlock wr.drew b (.map d0 a0)) b (.map e0 b0)) A 48 #[f,v1,V (Q bl off I) n d,v3]/\Ab w w (setBlock (setBlock wr.drew b (.map d0 a0)) b (.map e0 b0))):=by
    refine⟨⟨e0,b0,p0,by rw[s0.out];exact q0⟩,?_,JQ (JQ HR.2.2.drew o0.2.1 _) o0.2.1 _⟩;show ((wr.1.setIfInBounds b _).setIfInBounds b _)[A]?=_;rw[Eo (by omega),Eo (by omega)];exact HR.2.1
   have v0:IntKind.i64.wrap (c+1)=c+1:=by rw[A8];omega
   simp only[bk] at e1 e2 e3 e4;clear q1 q2 q0 h0 p0 t0 i0;go_wp2_with fail
   go_region
   all_goals
    go_wp2
    go_roundw
    case rel=>exact⟨k+1,by omega,by go_num,HR2⟩
    case measure=>simp[intOf];omega
  .obtain rfl:k=n:=by omega
   have HF:H (LM wr b f zs):=by have:=HR.1;rw[<-HN.out,List.take_length] at this;exact this
   have r0:=hd HR.2.2;go_wp2
   go_ret
   exact⟨b,rfl,HF,n0.2.1,r0⟩
end
def stD (d:Nd) (i:Nat) (f:Int):Nat->Dt
 | 0=>.val (Ao Ar d.i)
 | 1=>.val (Ao Ar d.f)
 | 2=>qH d.n d.S
 | 3=>.val (Ao Ar (i:Int))
 | _=>.val (Ao Ar f)
def jQ9 (n:Nat) (N:Nat->Nd) (f:Int):Dt:=.lst 124 5 n fun i=>stD (N i) i f
def zcT:List Aj:=[Ao Ar 0,Ao Ar 0,V I 0 0,Ao Ar 0,Ao Ar 0]
theorem Tryz.infoStZ:(Tryz.prog.info? 124).map (fun i=>(i.zero,i.size,i.bytes))=M (M (Ai zcT.toArray),5,56):=by kernel_rfl
theorem Tryz.infoSt:(Tryz.prog.info? 124).map (·.size)=M 5:=by kernel_rfl
theorem LM.below {w w':Ad} {b:Nat} {f:Int} {zs:List Int} (h:LM w b f zs) (hb:Ab w w w'):LM w' b f zs:=by
 obtain⟨es,a0,e,hl⟩:=h;exact⟨es,a0,(hb.block b (Bz.1 e).1).trans e,hl⟩
def stY (N:Nat->Nd) (an:Nat->OA) (cn:Nat->Nat) (f:Int) (i:Nat):Nat->Aj
 | 0=>Ao Ar (N i).i
 | 1=>Ao Ar (N i).f
 | 2=>V (an i) (N i).n (cn i)
 | 3=>Ao Ar (i:Int)
 | _=>Ao Ar f
theorem jLd (f:Int) (a:OA) (n c:Nat) (v2 v3:Aj) (N:Nat->Nd) (an:Nat->OA) (cn:Nat->Nat) (wb w:Ad) (u0:Ab wb wb w) (h:∀ k,k<n->∃ b1 f1,a=M (Q b1 f1 I)/\wb.rangeAt b1 (f1+k*3) [Ao Ar (N k).i,Ao Ar (N k).f,V (an k) (N k).n (cn k)]) (hn:n<=1048576):Ak prog 74 #[ntV f (V a n c) v2 v3] w fun e w'=>∃ g y,e=Ae (V (Q g 0 I) n n)/\w'.ownsRow w 124 5 (V (Q g 0 I) n n) n (cL 5 y n)/\(∀ i,i<n->∀ q,q<5->y i q=stY N an cn f i q)/\Ab w w w':=by
 obtain⟨i0,hi,v0,y0,z0⟩:=Cg Tryz.infoStZ;obtain⟨A,HA⟩:=nmH w.1.size;obtain⟨w0,g0⟩:=nmH (w.alloc (J #[f,V a n c,v2,v3] 48));have RA:=jZ g0 HA;have p0:=bl1 g0;have j0:=hd p0;have KH:H ((∀ k,k<n->∃ b1 f1,a=M (Q b1 f1 I)/\wb.rangeAt b1 (f1+k*3) [Ao Ar (N k).i,Ao Ar (N k).f,V (an k) (N k).n (cn k)])/\Ab wb wb w):=⟨h,u0⟩;obtain⟨g,HG⟩:=nmH w0.1.size;have x1:=RA.cell 1;simp at x1;clear h p0 u0;go_enter func74,ntmps74
 go_wp2_with (at_make;rw[<-g0.out,<-HA.out];refine Cv _ rfl _ _ 119 rfl w0 124 i0 (Ai zcT.toArray) 5 underlying119 hi v0 y0 Ar Ar _ _ n rfl rfl rfl rfl (by rw[z0];omega) (by unfold Au;omega) (Ay _) ?_;intro w1 c0 b0;have hb1:Ab w0 w0 w1:=(Az _ _).grown b0 (Ay _) (by simp);have y1:=(hb1.cell (p:=Q A 1 I) RA.lt).trans x1)
 have t0:w1.ownsRow w0 124 5 (V (Q g 0 I) n n) n (cL 5 (fun _ q=>zcT.getD q O) n):=by
  have e:(madeCells (Ai zcT.toArray).cells (n*5)).toList=cL 5 (fun _ q=>zcT.getD q O) n:=xH (zs:=zcT) (by simp[zcT]);rw[e] at c0;rw[HG.out];exact c0
 rw[<-HG.out];have KO1:=hd t0;clear c0 b0 t0;go_loopw [13] (fun vi wr=>∃ k:Nat,k<=n/\vi=Ao Ar (k:Int)/\H (∃ y,wr.ownsRow w0 124 5 (V (Q g 0 I) n n) n (cL 5 y n)/\∀ i,i<k->∀ q,q<5->y i q=stY N an cn f i q)/\Ab w0 w0 wr) (fun vi _=>n-(intOf vi).toNat)
 case atStart=>exact⟨0,Bi _,rfl,⟨_,KO1,fun i hi=>Bo hi (Bk _)⟩,hb1⟩
 case round=>
  obtain⟨k,hk,rfl,HY,a0⟩:=hrel;clear KO1 hb1 y1 x1;by_cases hlt:k<n
  .have a1:(k:Int)<(n:Int):=by omega
   obtain⟨b1,f1,rfl,R0⟩:=KH.1 k hlt;obtain⟨ak,n0⟩:=nnH (an k);obtain⟨ck,o0⟩:=nnH (cn k);rw[n0.out,o0.out] at R0;have R1:H (wr.rangeAt b1 (f1+k*3) [Ao Ar (N k).i,Ao Ar (N k).f,V ak (N k).n ck]):=fun j v hv=>((jA KH.2 (jA j0 a0)).cell (A7 (R0 j v hv))).trans (R0 j v hv)
   obtain⟨w2,m0⟩:=nmH (wr.alloc (J #[Ao Ar (N k).i,Ao Ar (N k).f,V ak (N k).n ck] 26));have b2:=bl1 m0;obtain⟨y,e0,f0⟩:=HY.out;have d0:=jE e0 b2;have TH:H (w2.there g (k*5) 5):=by
    intro j hj;refine⟨?_,B0 d0 _⟩;rw[Br d0 _ (qM hlt hj),jU _ _ _ _ _ hlt hj];rfl
   have x0:=(RA.below a0 RA.lt).cell 0;have lA:=(RA.below a0 RA.lt).lt;simp at x0;obtain⟨w3,h0⟩:=nmH (w2.setCells g (k*5) [Ao Ar (N k).i,Ao Ar (N k).f,V ak (N k).n ck,(k:Int),f]);have HY3:H (∃ y,w3.ownsRow w0 124 5 (V (Q g 0 I) n n) n (cL 5 y n)/\∀ i,i<k+1->∀ q,q<5->y i q=stY N an cn f i q):=by
    rw[h0.out];have:=qJ hlt [Ao Ar (N k).i,Ao Ar (N k).f,V ak (N k).n ck,(k:Int),f] 0 w2 y rfl d0
    rw[Cp] at this;refine⟨_,this,fun i hi q hq=>?_⟩;by_cases e:i=k
    .subst e;match q,hq with
     | 0,_|1,_|3,_|4,_=>simp[stY]
     | 2,_=>simp[stY,n0.out,o0.out]
    .simp only[e,false_and,Dj];exact f0 i (by omega) q hq
   have s0:w0.1.size<=g:=by rw[HG.out];exact Ay _
   have KB3:H (Ab w0 w0 w3):=by show Ab _ _ _;rw[h0.out];exact jR (jA a0 b2) s0 _ _
   clear HY e0 d0 b2 R0 a0 f0 s0;go_wp2_with (first|(refine Bv rfl 26 _ rfl b1 (f1+k*3) rfl [Ao Ar (N k).i,Ao Ar (N k).f,V ak (N k).n ck] _ ?_ Ch rfl Tryz.infoNd ?_;exact R1)|(rw[<-m0.out];refine C7 rfl 124 _ _ rfl g (k*5) #[Ao Ar (N k).i,Ao Ar (N k).f,V ak (N k).n ck,(k:Int),f] rfl rfl ?_ Tryz.infoSt (by simp[Aq]) ?_;exact TH;rw[<-h0.out]))
   go_roundw
   case rel=>exact⟨k+1,by omega,by go_num,HY3,KB3.out⟩
   case measure=>simp[intOf];omega
  .obtain rfl:k=n:=by omega
   have HF:H (∃ y,wr.ownsRow w 124 5 (V (Q g 0 I) k k) k (cL 5 y k)/\∀ i,i<k->∀ q,q<5->y i q=stY N an cn f i q):=by
    obtain⟨y,e0,f0⟩:=HY.out;exact⟨y,jY e0 j0.size,f0⟩
   obtain⟨y,q0,r0⟩:=HF.out;have k0:H _:=And.intro q0 r0;clear q0 r0 HF;go_wp2
   go_ret
   exact⟨g,y,rfl,k0.1,k0.2,jA j0 a0⟩
theorem jLe (f:Int) (a:OA) (n c B:Nat) (v2 v3:Aj) (N:Nat->Nd) (F:Nat->Prop) (wb w:Ad) (b0:Ab wb wb w) (h:Ow wb B (qR n N) (V a n c) F) (hF:∀ x,F x->x<w.1.size) (hB:B<=w) (hn:n<=1048576):Ak prog 74 #[ntV f (V a n c) v2 v3] w fun e w'=>∃ g,e=Ae (V (Q g 0 I) n n)/\Ow w' B (jQ9 n N f) (V (Q g 0 I) n n) (fun x=>F x\/x=g)/\w.1.size<=g/\Ab w w w':=by
 obtain⟨a',cap,cc,G,e0,ho,hs,hr⟩:=h;cases e0;have hv:∀ k,k<n->∃ an cn,cc k 0=Ao Ar (N k).i/\cc k 1=Ao Ar (N k).f/\cc k 2=V an (N k).n cn:=fun k hk=>by
  have h0:=hr k 0 hk (by omega);have h1:=hr k 1 hk (by omega);have h2:Ow wb B (qH (N k).n (N k).S) (cc k 2) (G k 2):=hr k 2 hk (by omega);obtain⟨an,cn,e2⟩:=h2.rd.shape;exact⟨an,cn,h0,h1,e2⟩
 have hw:∀ k,∃ p:OA×Nat,k<n->cc k 0=Ao Ar (N k).i/\cc k 1=Ao Ar (N k).f/\cc k 2=V p.1 (N k).n p.2:=fun k=>by
  by_cases hk:k<n
  .obtain⟨an,cn,h⟩:=hv k hk;exact⟨(an,cn),fun _=>h⟩
  .exact⟨(I,0),fun h=>Bo h hk⟩
 obtain⟨p,hp⟩:=Ew hw;refine(jLd f a n c v2 v3 N (fun k=>(p k).1) (fun k=>(p k).2) wb w b0 (fun k hk=>?_) hn).mono ?_
 .obtain⟨e0,e1,e2⟩:=hp k hk;rcases ho.2 with ⟨h',i0⟩|⟨g',f0,g0,h1,h2,h3,h4⟩
  .omega
  .cases h1;refine⟨g',0,rfl,fun j v hv=>?_⟩;have hj:j<3:=by
    rcases Fz j 3 with h|h
    .exact h
    .rw[Be (by simpa using h)] at hv;cases hv
   rw[Bt,Br ho _ (qM hk hj),jU _ _ _ _ _ hk hj];match j,hj with
   | 0,_=>rw[e0];simpa using hv
   | 1,_=>rw[e1];simpa using hv
   | 2,_=>rw[e2];simpa using hv
 .rintro e w' ⟨g,y,rfl,a0,hy,hb⟩;have d0:=A0 a0 g rfl;refine⟨g,rfl,⟨_,_,y,fun i q x=>if q<3 then G i q x else False,rfl,jY a0 hB,?_,fun i q hi hq=>?_⟩,d0.1,hb⟩
  .refine⟨fun x hx=>.inr (by cases hx;rfl),fun i q x hi hq hx=>?_,fun i q x hi hq hx k=>?_,fun i q i' q' x hi hq c0 j0 h1 h2=>?_⟩
   .by_cases h3:q<3
    .rw[A6 h3] at hx;exact .inl (hs.sub i q x hi h3 hx)
    .rw[A5 h3] at hx;exact hx.elim
   .cases hx;by_cases h3:q<3
    .rw[A6 h3] at k;have h5:g<w.1.size:=hF _ (hs.sub i q _ hi h3 k);omega
    .rw[A5 h3] at k;exact k.elim
   .by_cases h3:q<3
    .by_cases h4:q'<3
     .rw[A6 h3] at h1;rw[A6 h4] at h2;exact hs.each i q i' q' x hi h3 c0 h4 h1 h2
     .rw[A5 h4] at h2;exact h2.elim
    .rw[A5 h3] at h1;exact h1.elim
  .rw[hy i hi q hq];obtain⟨e0,e1,e2⟩:=hp i hi;match q,hq with
   | 0,_|1,_|3,_|4,_=>rfl
   | 2,_=>
    have h2:Ow wb B (qH (N i).n (N i).S) (cc i 2) (G i 2):=hr i 2 hi (by omega);rw[e2] at h2;exact(h2.below b0).below hb
end Go.Proofs.YtcaejlalnjnifaaGreat
