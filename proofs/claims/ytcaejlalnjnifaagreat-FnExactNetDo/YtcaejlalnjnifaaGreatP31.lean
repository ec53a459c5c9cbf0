import Derived.Test.YtcaejlalnjnifaaGreatP29
import Derived.Test.YtcaejlalnjnifaaGreatP26
import Derived.Test.YtcaejlalnjnifaaGreatP30
set_option maxHeartbeats 8000000
set_option maxRecDepth 2000
open Go.Value renaming slice->V,string->Ag,int->Ao
open Option renaming none->I,some->M
open Go.RowKit renaming Hid->H,Below->Ab
open Go.Addr renaming mk->Q
open Go renaming undef->O,World->Ad,Value->Aj,Calls->Ak
open Go.Obj renaming cells->J
open Go.Ending renaming returned->Ae
open Go.IntKind renaming i64->Ar
open Bool renaming false->Av
open Go.Proofs.Tryz
open Go.ChangeShapes Go.WideShapes Go.ChangeAt Go.RowKit
namespace Go.Proofs.YtcaejlalnjnifaaGreat
def wkS (s:Sl):Nat:=10+s.p.m+s.ze.length+s.zr.length
theorem QZ {g:Nat->Nat} {c n:Nat} (h:c<n):tot g c+g c<=tot g n:=by
 induction n with
 | zero=>omega
 | succ n ih=>
  rw[show tot g (n+1)=tot g n+g n from rfl];by_cases e:c=n
  .subst e;omega
  .have:=ih (by omega);omega
end Go.Proofs.YtcaejlalnjnifaaGreat
namespace Go.Proofs.YtcaejlalnjnifaaGreat
open Go.ChangeShapes Go.WideShapes Go.ChangeAt Go.RowKit Go.Sort
def mkX (o:Nat) (s:Sl):Sl:=⟨xC o,⟨xC (o+1),((o+2:Nat):Int),((o+3:Nat):Int),((o+4:Nat):Int),xC (o+5),s.p.m,fun j=>xC (o+6+j)⟩,(((o+6+s.p.m:Nat):Int) % 3==0),(((o+7+s.p.m:Nat):Int) % 3==0),(((o+8+s.p.m:Nat):Int) % 3==0),(((o+9+s.p.m:Nat):Int) % 3==0),jV (o+10+s.p.m) s.ze.length,jV (o+10+s.p.m+s.ze.length) s.zr.length⟩
def mkL (k:Nat) (S:Nat->Sl) (i:Nat):Sl:=mkX (k+tot (fun i=>wkS (S i)) i) (S i)
theorem jDa (B g n cap:Nat) (F:Nat->Prop) (S:Nat->Sl) (k:Nat) (w:Ad) (h:Ow w B (qG n S) (V g n cap) F) (hn:n<=1048576) (hm:∀ i,i<n->SlS (S i)) (hk:k+tot (fun i=>wkS (S i)) n<=400000000):Ak prog 148 #[V g n cap,(k:Int)] w fun e w'=>e=Ae (Ao Ar ((k+tot (fun i=>wkS (S i)) n:Nat):Int))/\Ow w' B (qG n (mkL k S)) (V g n cap) F/\Trn w w' F:=by
 obtain⟨G,c1,k7⟩:=Ow.mk h;have KS:=hd c1;have HG:=hd (c1.head _ rfl);have K0:=hd (k7.congr (fun i q _ _=>rfl));have HM:Hid (∀ i,i<n->SlS (S i)):=hm;have HK:=hd hk;go_enter func148,ntmps148
 go_wp2
 go_loopw [1,5] (fun vk vi wr=>∃ (c x:Nat) (S':Nat->Sl),c<=n/\vk=Ao Ar (x:Int)/\vi=Ao Ar (c:Int)/\Hid (x=k+tot (fun i=>wkS (S i)) c/\(∀ i,S' i=if i<c then mkL k S i else S i)/\MkS wr B 42 13 g n cap G (fun i=>slD (S' i))/\Trn w wr F)) (fun _ vi _=>n-(intOf vi).toNat)
 case atStart=>exact⟨0,k,S,Bi _,rfl,rfl,rfl,fun i=>by simp,K0,Trn.refl _ _⟩
 case round=>
  obtain⟨c,o0,S',m7,rfl,rfl,KO⟩:=hrel;by_cases hlt:c<n
  .have l6:(c:Int)<(n:Int):=by omega
   have hS:S' c=S c:=by rw[KO.out.2.1 c,A5 (Fq _)]
   have a8:=HM c hlt;have ho:o0+wkS (S c)<=400000000:=by
    have h1:=KO.1;have h2:=QZ (g:=fun i=>wkS (S i)) hlt;have h3:=HK.out;omega
   obtain⟨m,a5⟩:=nnH ((S c).p.m);obtain⟨le,a2⟩:=nnH ((S c).ze.length);obtain⟨lr,a9⟩:=nnH ((S c).zr.length);have k3:Hid (o0+10+m+le+lr=k+tot (fun i=>wkS (S i)) (c+1)):=by
    show _=k+(tot (fun i=>wkS (S i)) c+wkS (S c));have:=KO.1
    unfold wkS;rw[a5.out,a2.out,a9.out];unfold wkS at this;omega
   unfold wkS at ho;unfold SlS at a8;rw[a5.out,a2.out,a9.out] at ho a8;obtain⟨o1,O⟩:=nmH (o0+1);obtain⟨o2,L⟩:=nmH (o1+1);obtain⟨o3,X⟩:=nmH (o2+1);obtain⟨o4,M⟩:=nmH (o3+1);obtain⟨o5,J⟩:=nmH (o4+1);obtain⟨o6,K⟩:=nmH (o5+1);obtain⟨o7,H⟩:=nnH (o6+m);obtain⟨o8,Z⟩:=nmH (o7+1);obtain⟨o9,R⟩:=nmH (o8+1);obtain⟨a1,C⟩:=nmH (o9+1);obtain⟨a0,A⟩:=nmH (a1+1);obtain⟨a4,u⟩:=nnH (a0+le);obtain⟨o13,D⟩:=nnH (a4+lr);have e1:(o0:Int)+1=(o1:Int):=by have:=O.out;omega
   have e2:(o1:Int)+1=(o2:Int):=by have:=L.out;omega
   have e3:(o2:Int)+1=(o3:Int):=by have:=X.out;omega
   have e4:(o3:Int)+1=(o4:Int):=by have:=M.out;omega
   have e5:(o4:Int)+1=(o5:Int):=by have:=J.out;omega
   have e6:(o5:Int)+1=(o6:Int):=by have:=K.out;omega
   have e8:(o7:Int)+1=(o8:Int):=by have:=Z.out;omega
   have e9:(o8:Int)+1=(o9:Int):=by have:=R.out;omega
   have n0:(o9:Int)+1=(a1:Int):=by have:=C.out;omega
   have n3:(a1:Int)+1=(a0:Int):=by have:=A.out;omega
   have UB:Hid (o13<=400000000/\a4<=400000000/\a0<=400000000/\o6<=400000000/\o5<=400000000/\o1<=400000000/\o0<=400000000):=by have:=O.out;have:=L.out;have:=X.out;have:=M.out;have:=J.out;have:=K.out;have:=H.out;have:=Z.out;have:=R.out;have:=C.out;have:=A.out;have:=u.out;have:=D.out;exact⟨by omega,by omega,by omega,by omega,by omega,by omega,by omega⟩
   have HNX2:Hid (o13=k+tot (fun i=>wkS (S i)) (c+1)):=by show _=_;rw[<-k3.out];have:=O.out;have:=L.out;have:=X.out;have:=M.out;have:=J.out;have:=K.out;have:=H.out;have:=Z.out;have:=R.out;have:=C.out;have:=A.out;have:=u.out;have:=D.out;omega
   have u0:o0<=400000000:=by have:=O.out;have:=L.out;have:=X.out;have:=M.out;have:=J.out;have:=K.out;have:=H.out;have:=Z.out;have:=R.out;have:=C.out;have:=A.out;have:=u.out;have:=UB.1;have:=D.out;omega
   have u1:o1<=400000000:=by have:=O.out;have:=L.out;have:=X.out;have:=M.out;have:=J.out;have:=K.out;have:=H.out;have:=Z.out;have:=R.out;have:=C.out;have:=A.out;have:=u.out;have:=UB.1;have:=D.out;omega
   have u2:o2<=400000000:=by have:=O.out;have:=L.out;have:=X.out;have:=M.out;have:=J.out;have:=K.out;have:=H.out;have:=Z.out;have:=R.out;have:=C.out;have:=A.out;have:=u.out;have:=UB.1;have:=D.out;omega
   have u3:o3<=400000000:=by have:=O.out;have:=L.out;have:=X.out;have:=M.out;have:=J.out;have:=K.out;have:=H.out;have:=Z.out;have:=R.out;have:=C.out;have:=A.out;have:=u.out;have:=UB.1;have:=D.out;omega
   have u4:o4<=400000000:=by have:=O.out;have:=L.out;have:=X.out;have:=M.out;have:=J.out;have:=K.out;have:=H.out;have:=Z.out;have:=R.out;have:=C.out;have:=A.out;have:=u.out;have:=UB.1;have:=D.out;omega
   have u5:o5<=400000000:=by have:=O.out;have:=L.out;have:=X.out;have:=M.out;have:=J.out;have:=K.out;have:=H.out;have:=Z.out;have:=R.out;have:=C.out;have:=A.out;have:=u.out;have:=UB.1;have:=D.out;omega
   have u6:o6<=400000000:=by have:=O.out;have:=L.out;have:=X.out;have:=M.out;have:=J.out;have:=K.out;have:=H.out;have:=Z.out;have:=R.out;have:=C.out;have:=A.out;have:=u.out;have:=UB.1;have:=D.out;omega
   have u7:o7<=400000000:=by have:=O.out;have:=L.out;have:=X.out;have:=M.out;have:=J.out;have:=K.out;have:=H.out;have:=Z.out;have:=R.out;have:=C.out;have:=A.out;have:=u.out;have:=UB.1;have:=D.out;omega
   have u8:o8<=400000000:=by have:=O.out;have:=L.out;have:=X.out;have:=M.out;have:=J.out;have:=K.out;have:=H.out;have:=Z.out;have:=R.out;have:=C.out;have:=A.out;have:=u.out;have:=UB.1;have:=D.out;omega
   have u9:o9<=400000000:=by have:=O.out;have:=L.out;have:=X.out;have:=M.out;have:=J.out;have:=K.out;have:=H.out;have:=Z.out;have:=R.out;have:=C.out;have:=A.out;have:=u.out;have:=UB.1;have:=D.out;omega
   have l5:a1<=400000000:=by have:=O.out;have:=L.out;have:=X.out;have:=M.out;have:=J.out;have:=K.out;have:=H.out;have:=Z.out;have:=R.out;have:=C.out;have:=A.out;have:=u.out;have:=UB.1;have:=D.out;omega
   have m8:a0<=400000000:=by have:=O.out;have:=L.out;have:=X.out;have:=M.out;have:=J.out;have:=K.out;have:=H.out;have:=Z.out;have:=R.out;have:=C.out;have:=A.out;have:=u.out;have:=UB.1;have:=D.out;omega
   obtain⟨s0,i5⟩:=nnH (xC o0);have j8:Hid (∀ W,CB 98 #[(o0:Int)] W s0):=fun W=>by rw[<-i5.out];exact jR o0 W (by omega)
   obtain⟨s1,i3⟩:=nnH (xC o1);have k8:Hid (∀ W,CB 98 #[(o1:Int)] W s1):=fun W=>by rw[<-i3.out];exact jR o1 W (by omega)
   obtain⟨s5,i9⟩:=nnH (xC o5);have k2:Hid (∀ W,CB 98 #[(o5:Int)] W s5):=fun W=>by rw[<-i9.out];exact jR o5 W (by omega)
   have k6:=a8.1;have k5:=a8.2.1;have j7:=a8.2.2;have K1:Hid (MkS wr B 42 13 g n cap G (fun i=>slD (S' i))/\Trn w wr F):=⟨KO.2.2.1,KO.2.2.2⟩;obtain⟨W1,g8⟩:=nmH wr;have M1:=K1.1;rw[<-g8.out] at M1;have i4:Hid (MkS W1 B 42 13 g n cap G _/\Trn w W1 F):=⟨M1,by rw[g8.out];exact K1.2⟩;go_wp2_with fail
   rw[<-g8.out];refine Ax (j8 _) ?_;rintro e w1 ⟨rfl,b1⟩;have g5:Hid (MkS w1 B 42 13 g n cap G _/\Trn w w1 F):=⟨MkS.below i4.1 b1,i4.2.trans (Trn.ofBelow F b1)⟩;obtain⟨l7,x0,f0,_⟩:=MkS.cell g5.1 hlt (show 0<13 by omega);simp only[Cp] at x0 f0;obtain⟨W2,c7⟩:=nmH ((w1.setCell (Q g (c*13) I) s0));have M2:=g5.1;have M2:=MkS.set M2 KS hlt (show 0<13 by omega) s0;rw[Cp] at M2;rw[<-c7.out] at M2;have i7:Hid (MkS W2 B 42 13 g n cap G _/\Trn w W2 F):=⟨M2,by rw[c7.out];exact(g5.2.trans (Trn.set _ (c*13) _ HG))⟩;go_wp2_with fail
   rw[<-c7.out];refine Ax (k8 _) ?_;rintro e w2 ⟨rfl,b2⟩;have a3:Hid (MkS w2 B 42 13 g n cap G _/\Trn w w2 F):=⟨MkS.below i7.1 b2,i7.2.trans (Trn.ofBelow F b2)⟩;obtain⟨m3,x1,f1,_⟩:=MkS.cell a3.1 hlt (show 1<13 by omega);obtain⟨l4,x2,f2,_⟩:=MkS.cell a3.1 hlt (show 2<13 by omega);obtain⟨l9,x3,f3,_⟩:=MkS.cell a3.1 hlt (show 3<13 by omega);obtain⟨m4,x4,f4,_⟩:=MkS.cell a3.1 hlt (show 4<13 by omega);obtain⟨W3,g4⟩:=nmH (((((w2.setCell (Q g (c*13+1) I) s1).setCell (Q g (c*13+2) I) (o2:Int)).setCell (Q g (c*13+3) I) (o3:Int)).setCell (Q g (c*13+4) I) (o4:Int)));have M3:=a3.1;have M3:=MkS.set M3 KS hlt (show 1<13 by omega) s1;have M3:=MkS.set M3 KS hlt (show 2<13 by omega) (o2:Int);have M3:=MkS.set M3 KS hlt (show 3<13 by omega) (o3:Int);have M3:=MkS.set M3 KS hlt (show 4<13 by omega) (o4:Int);rw[<-g4.out] at M3;have h8:Hid (MkS W3 B 42 13 g n cap G _/\Trn w W3 F):=⟨M3,by rw[g4.out];exact((((a3.2.trans (Trn.set _ (c*13+1) _ HG)).trans (Trn.set _ (c*13+2) _ HG)).trans (Trn.set _ (c*13+3) _ HG)).trans (Trn.set _ (c*13+4) _ HG))⟩;go_wp2_with fail
   rw[<-g4.out];refine Ax (k2 _) ?_;rintro e w3 ⟨rfl,b3⟩;have h4:Hid (MkS w3 B 42 13 g n cap G _/\Trn w w3 F):=⟨MkS.below h8.1 b3,h8.2.trans (Trn.ofBelow F b3)⟩;obtain⟨m2,x5,f5,_⟩:=MkS.cell h4.1 hlt (show 5<13 by omega);obtain⟨W4,b7⟩:=nmH ((w3.setCell (Q g (c*13+5) I) s5));have M4:=h4.1;have M4:=MkS.set M4 KS hlt (show 5<13 by omega) s5;rw[<-b7.out] at M4;have d0:Hid (MkS W4 B 42 13 g n cap G _/\Trn w W4 F):=⟨M4,by rw[b7.out];exact(h4.2.trans (Trn.set _ (c*13+5) _ HG))⟩;obtain⟨v6,x6,_,h6⟩:=MkS.cell d0.1 hlt (show 6<13 by omega);have h7:Hid (Ow W4 B (txD (S c).p.m (S c).p.S) v6 (G c 6)):=by
    have:=h6
    simp[slD,hS] at this;exact this
   have b0:Hid _:=QM B v6 (S c).p.m (S c).p.S o6 o7 (G c 6) W4 h7 (by rw[a5.out];exact k6) (by omega) (by rw[a5.out];exact H.out);obtain⟨a6,c6,e6⟩:∃ a6 c6,v6=V a6 m c6:=by
    obtain⟨a,cp,e,_⟩:=jGu h7;rw[a5.out] at e;exact⟨a,cp,e⟩
   subst e6;have X6:=hd x6;have y6:w3.cell? (Q g (c*13+6) I)=some (V a6 m c6):=by
    have h1:=x6;rw[b7.out,Dg _ _ _ _ (by simp)] at h1;exact h1
   go_wp2_with fail
   rw[<-b7.out];refine Ax b0.out ?_;rintro e w4 ⟨rfl,j4,i0⟩;have M4:=MkS.turn d0.1 KS hlt (show 6<13 by omega) X6.out j4 i0;have a7:Hid (MkS w4 B 42 13 g n cap G _/\Trn w w4 F):=⟨M4,d0.2.trans (i0.mono (fun x hx=>KS.sub c 6 x hlt (by omega) hx))⟩;obtain⟨m6,x7,f7,_⟩:=MkS.cell a7.1 hlt (show 7<13 by omega);obtain⟨m0,x8,f8,_⟩:=MkS.cell a7.1 hlt (show 8<13 by omega);obtain⟨m5,x9,f9,_⟩:=MkS.cell a7.1 hlt (show 9<13 by omega);obtain⟨l3,n1,m9,_⟩:=MkS.cell a7.1 hlt (show 10<13 by omega);obtain⟨W5,b6⟩:=nmH (((((w4.setCell (Q g (c*13+7) I) ((o7:Int) % 3==0)).setCell (Q g (c*13+8) I) ((o8:Int) % 3==0)).setCell (Q g (c*13+9) I) ((o9:Int) % 3==0)).setCell (Q g (c*13+10) I) ((a1:Int) % 3==0)));have M5:=a7.1;have M5:=MkS.set M5 KS hlt (show 7<13 by omega) ((o7:Int) % 3==0);have M5:=MkS.set M5 KS hlt (show 8<13 by omega) ((o8:Int) % 3==0);have M5:=MkS.set M5 KS hlt (show 9<13 by omega) ((o9:Int) % 3==0);have M5:=MkS.set M5 KS hlt (show 10<13 by omega) ((a1:Int) % 3==0);rw[<-b6.out] at M5;have g0:Hid (MkS W5 B 42 13 g n cap G _/\Trn w W5 F):=⟨M5,by rw[b6.out];exact((((a7.2.trans (Trn.set _ (c*13+7) _ HG)).trans (Trn.set _ (c*13+8) _ HG)).trans (Trn.set _ (c*13+9) _ HG)).trans (Trn.set _ (c*13+10) _ HG))⟩;obtain⟨c9,j0,_,j6⟩:=MkS.cell g0.1 hlt (show 11<13 by omega);have b8:Hid (Ow W5 B (inD (S c).ze) c9 (G c 11)):=by
    have:=j6
    simp[slD,hS] at this;exact this
   have b0:Hid _:=JG B c9 (S c).ze a0 a4 (G c 11) W5 b8 (by rw[a2.out];exact k5) (by have:=UB.out;omega) (by rw[a2.out];exact u.out);obtain⟨g6,h5,i8⟩:∃ g6 h5,c9=V g6 le h5:=by
    obtain⟨a,cp,e,_⟩:=JU b8;rw[a2.out] at e;exact⟨a,cp,e⟩
   subst i8;have j9:=hd j0;have l8:w4.cell? (Q g (c*13+11) I)=some (V g6 le h5):=by
    have h1:=j0;rw[b6.out,Dg _ _ _ _ (by simp),Dg _ _ _ _ (by simp),Dg _ _ _ _ (by simp),Dg _ _ _ _ (by simp)] at h1;exact h1
   go_wp2_with fail
   rw[<-b6.out];refine Ax b0.out ?_;rintro e w5 ⟨rfl,i1,b9⟩;have M5:=MkS.turn g0.1 KS hlt (show 11<13 by omega) j9.out i1 b9;have j2:Hid (MkS w5 B 42 13 g n cap G _/\Trn w w5 F):=⟨M5,g0.2.trans (b9.mono (fun x hx=>KS.sub c 11 x hlt (by omega) hx))⟩;obtain⟨W6,b4⟩:=nmH w5;have M6:=j2.1;rw[<-b4.out] at M6;have h0:Hid (MkS W6 B 42 13 g n cap G _/\Trn w W6 F):=⟨M6,by rw[b4.out];exact j2.2⟩;obtain⟨e0,i2,_,j5⟩:=MkS.cell h0.1 hlt (show 12<13 by omega);have c4:Hid (Ow W6 B (inD (S c).zr) e0 (G c 12)):=by
    have:=j5
    simp[slD,hS] at this;exact this
   have b0:Hid _:=JG B e0 (S c).zr a4 o13 (G c 12) W6 c4 (by rw[a9.out];exact j7) (by have:=UB.out;omega) (by rw[a9.out];exact D.out);obtain⟨e7,f6,h9⟩:∃ e7 f6,e0=V e7 lr f6:=by
    obtain⟨a,cp,e,_⟩:=JU c4;rw[a9.out] at e;exact⟨a,cp,e⟩
   subst h9;have k0:=hd i2;have m1:w5.cell? (Q g (c*13+12) I)=some (V e7 lr f6):=by
    have h1:=i2;rw[b4.out] at h1;exact h1
   go_wp2_with fail
   rw[<-b4.out];refine Ax b0.out ?_;rintro e w6 ⟨rfl,j1,c0⟩;have M6:=MkS.turn h0.1 KS hlt (show 12<13 by omega) k0.out j1 c0;have b5:Hid (MkS w6 B 42 13 g n cap G _/\Trn w w6 F):=⟨M6,h0.2.trans (c0.mono (fun x hx=>KS.sub c 12 x hlt (by omega) hx))⟩;obtain⟨W7,i6⟩:=nmH w6;have M7:=b5.1;rw[<-i6.out] at M7;have n2:Hid (MkS W7 B 42 13 g n cap G _/\Trn w W7 F):=⟨M7,by rw[i6.out];exact b5.2⟩;have HN:Hid (∃ S2:Nat->Sl,(∀ i,S2 i=if i<c+1 then mkL k S i else S i)/\MkS w6 B 42 13 g n cap G (fun i=>slD (S2 i))/\Trn w w6 F):=by
    have hd:mkL k S c=⟨s0,⟨s1,(o2:Int),(o3:Int),(o4:Int),s5,(S c).p.m,fun j=>xC (o6+j)⟩,((o7:Int) % 3==0),((o8:Int) % 3==0),((o9:Int) % 3==0),((a1:Int) % 3==0),jV a0 (S c).ze.length,jV a4 (S c).zr.length⟩:=by
     have z0:=KO.1.symm;have z1:=O.symm;have z2:o0+2=o2:=by have:=L.out;omega
     have z3:o0+3=o3:=by have:=X.out;omega
     have z4:o0+4=o4:=by have:=M.out;omega
     have z5:o0+5=o5:=by have:=J.out;omega
     have z6:o0+6=o6:=by have:=K.out;omega
     have z7:o6+(S c).p.m=o7:=by rw[a5.out];exact H
     have z8:o0+7+(S c).p.m=o8:=by have:=Z.out;omega
     have z9:o0+8+(S c).p.m=o9:=by have:=R.out;omega
     have k9:o0+9+(S c).p.m=a1:=by have:=C.out;omega
     have k4:o0+10+(S c).p.m=a0:=by have:=A.out;omega
     have j3:a0+(S c).ze.length=a4:=by rw[a2.out];exact u
     unfold mkL mkX;rw[z0,z1,z2,z3,z4,z5,z6,z7,z8,z9,k9,k4,j3,i5.out,i3.out,i9.out]
    refine⟨fun i=>if i<c+1 then mkL k S i else S i,fun i=>rfl,MkS.congr b5.1 fun i q hi hq=>?_,b5.2⟩;show _=slD (if i<c+1 then mkL k S i else S i) q;by_cases ei:i=c
    .subst ei;rw[A6 (show i<i+1 by omega),hd];match q,hq with
     | 0,_|1,_|2,_|3,_|4,_|5,_|6,_|7,_|8,_|9,_|10,_|11,_|12,_=>simp[slD]
    .have e1:=KO.2.1 i;by_cases e2:i<c
     .rw[A6 (show i<c+1 by omega)];rw[A6 e2] at e1;simp[ei,e1]
     .rw[A5 (show ¬ i<c+1 by omega)];rw[A5 e2] at e1;simp[ei,e1]
   go_wp2
   obtain⟨S2,g1,g2,g3⟩:=HN.out;go_roundw
   case rel=>exact⟨c+1,o13,S2,by omega,by go_num,by go_num,HNX2.out,g1,g2,g3⟩
   case measure=>simp[intOf];omega
  .obtain rfl:c=n:=by omega
   go_wp2
   go_ret
   have HF:=hd ((KO.2.2.1.congr (fun i q hi _=>by rw[KO.out.2.1 i,A6 hi])).ow KS);exact⟨jS (by have:=KO.1;omega),HF.out,KO.out.2.2.2⟩
theorem jC1 (a:OA) (n cap:Nat) (S:Nat->Sl) (k:Nat) (w:Ad) (h:Rd w (qG n (mkL k S)) (V a n cap)) (hn:n<=1048576) (hm:∀ i,i<n->SlS (S i)) (hk:k+tot (fun i=>wkS (S i)) n<=400000000):CB 150 #[V a n cap,(k:Int)] w (Ao Ar ((k+tot (fun i=>wkS (S i)) n:Nat):Int)):=by
 have KH:Hid (Rd w (qG n (mkL k S)) (V a n cap)):=h;have HM:Hid (∀ i,i<n->SlS (S i)):=hm;have HK:Hid (k+tot (fun i=>wkS (S i)) n<=400000000):=hk;clear h hm hk;go_enter func150,ntmps150
 go_wp2
 go_loopw [1,5] (fun vk vi wr=>∃ (c x:Nat),c<=n/\vk=Ao Ar (x:Int)/\vi=Ao Ar (c:Int)/\Hid (x=k+tot (fun i=>wkS (S i)) c)/\Ab w w wr) (fun _ vi _=>n-(intOf vi).toNat)
 case atStart=>exact⟨0,k,Bi _,rfl,rfl,rfl,Az _ _⟩
 case round=>
  obtain⟨c,Z,h8,rfl,rfl,HO,a3⟩:=hrel;by_cases hlt:c<n
  case neg=>
   obtain rfl:c=n:=by omega
   go_wp2
   go_ret
   exact⟨jS (by have:=HO.out;omega),a3⟩
  have g5:(c:Int)<(n:Int):=by omega
  have a4:=HM c hlt;have ho:Z+wkS (S c)<=400000000:=by
   have h1:=HO.out;have h2:tot (fun i=>wkS (S i)) c+wkS (S c)<=tot (fun i=>wkS (S i)) n:=QZ (g:=fun i=>wkS (S i)) hlt;have h3:=HK.out;omega
  obtain⟨m,b9⟩:=nnH ((S c).p.m);obtain⟨le,b6⟩:=nnH ((S c).ze.length);obtain⟨lr,b8⟩:=nnH ((S c).zr.length);have f8:Hid (Z+10+m+le+lr=k+tot (fun i=>wkS (S i)) (c+1)):=by
   show _=k+(tot (fun i=>wkS (S i)) c+wkS (S c));have:=HO.out
   unfold wkS;rw[b9.out,b6.out,b8.out];unfold wkS at this;omega
  unfold wkS at ho;unfold SlS at a4;rw[b9.out,b6.out,b8.out] at ho a4;obtain⟨o1,K⟩:=nmH (Z+1);obtain⟨o2,H⟩:=nmH (o1+1);obtain⟨o3,M⟩:=nmH (o2+1);obtain⟨o4,J⟩:=nmH (o3+1);obtain⟨o5,D⟩:=nmH (o4+1);obtain⟨o6,G⟩:=nmH (o5+1);obtain⟨o7,C⟩:=nnH (o6+m);obtain⟨o8,O⟩:=nmH (o7+1);obtain⟨o9,L⟩:=nmH (o8+1);obtain⟨a5,A⟩:=nmH (o9+1);obtain⟨a0,u⟩:=nmH (a5+1);obtain⟨X,q⟩:=nnH (a0+le);obtain⟨o13,B⟩:=nnH (X+lr);have e1:(Z:Int)+1=(o1:Int):=by have:=K.out;omega
  have e2:(o1:Int)+1=(o2:Int):=by have:=H.out;omega
  have e3:(o2:Int)+1=(o3:Int):=by have:=M.out;omega
  have e4:(o3:Int)+1=(o4:Int):=by have:=J.out;omega
  have e5:(o4:Int)+1=(o5:Int):=by have:=D.out;omega
  have e6:(o5:Int)+1=(o6:Int):=by have:=G.out;omega
  have e8:(o7:Int)+1=(o8:Int):=by have:=O.out;omega
  have e9:(o8:Int)+1=(o9:Int):=by have:=L.out;omega
  have i0:(o9:Int)+1=(a5:Int):=by have:=A.out;omega
  have i3:(a5:Int)+1=(a0:Int):=by have:=u.out;omega
  have HNX2:Hid (o13=k+tot (fun i=>wkS (S i)) (c+1)):=by show _=_;rw[<-f8.out];have:=K.out;have:=H.out;have:=M.out;have:=J.out;have:=D.out;have:=G.out;have:=C.out;have:=O.out;have:=L.out;have:=A.out;have:=u.out;have:=q.out;have:=B.out;omega
  have u0:Z<=400000000:=by have:=K.out;have:=H.out;have:=M.out;have:=J.out;have:=D.out;have:=G.out;have:=C.out;have:=O.out;have:=L.out;have:=A.out;have:=u.out;have:=q.out;have:=B.out;omega
  have u1:o1<=400000000:=by have:=K.out;have:=H.out;have:=M.out;have:=J.out;have:=D.out;have:=G.out;have:=C.out;have:=O.out;have:=L.out;have:=A.out;have:=u.out;have:=q.out;have:=B.out;omega
  have u2:o2<=400000000:=by have:=K.out;have:=H.out;have:=M.out;have:=J.out;have:=D.out;have:=G.out;have:=C.out;have:=O.out;have:=L.out;have:=A.out;have:=u.out;have:=q.out;have:=B.out;omega
  have u3:o3<=400000000:=by have:=K.out;have:=H.out;have:=M.out;have:=J.out;have:=D.out;have:=G.out;have:=C.out;have:=O.out;have:=L.out;have:=A.out;have:=u.out;have:=q.out;have:=B.out;omega
  have u4:o4<=400000000:=by have:=K.out;have:=H.out;have:=M.out;have:=J.out;have:=D.out;have:=G.out;have:=C.out;have:=O.out;have:=L.out;have:=A.out;have:=u.out;have:=q.out;have:=B.out;omega
  have u5:o5<=400000000:=by have:=K.out;have:=H.out;have:=M.out;have:=J.out;have:=D.out;have:=G.out;have:=C.out;have:=O.out;have:=L.out;have:=A.out;have:=u.out;have:=q.out;have:=B.out;omega
  have u6:o6<=400000000:=by have:=K.out;have:=H.out;have:=M.out;have:=J.out;have:=D.out;have:=G.out;have:=C.out;have:=O.out;have:=L.out;have:=A.out;have:=u.out;have:=q.out;have:=B.out;omega
  have u7:o7<=400000000:=by have:=K.out;have:=H.out;have:=M.out;have:=J.out;have:=D.out;have:=G.out;have:=C.out;have:=O.out;have:=L.out;have:=A.out;have:=u.out;have:=q.out;have:=B.out;omega
  have u8:o8<=400000000:=by have:=K.out;have:=H.out;have:=M.out;have:=J.out;have:=D.out;have:=G.out;have:=C.out;have:=O.out;have:=L.out;have:=A.out;have:=u.out;have:=q.out;have:=B.out;omega
  have u9:o9<=400000000:=by have:=K.out;have:=H.out;have:=M.out;have:=J.out;have:=D.out;have:=G.out;have:=C.out;have:=O.out;have:=L.out;have:=A.out;have:=u.out;have:=q.out;have:=B.out;omega
  have g4:a5<=400000000:=by have:=K.out;have:=H.out;have:=M.out;have:=J.out;have:=D.out;have:=G.out;have:=C.out;have:=O.out;have:=L.out;have:=A.out;have:=u.out;have:=q.out;have:=B.out;omega
  have h9:a0<=400000000:=by have:=K.out;have:=H.out;have:=M.out;have:=J.out;have:=D.out;have:=G.out;have:=C.out;have:=O.out;have:=L.out;have:=A.out;have:=u.out;have:=q.out;have:=B.out;omega
  have h7:X<=400000000:=by have:=K.out;have:=H.out;have:=M.out;have:=J.out;have:=D.out;have:=G.out;have:=C.out;have:=O.out;have:=L.out;have:=A.out;have:=u.out;have:=q.out;have:=B.out;omega
  have h5:o13<=400000000:=by have:=K.out;have:=H.out;have:=M.out;have:=J.out;have:=D.out;have:=G.out;have:=C.out;have:=O.out;have:=L.out;have:=A.out;have:=u.out;have:=q.out;have:=B.out;omega
  obtain⟨s0,e7⟩:=nnH (xC Z);have f4:Hid (∀ W,CB 98 #[(Z:Int)] W s0):=fun W=>by rw[<-e7.out];exact jR Z W (by omega)
  have n0:(s0.toList !=s0.toList)=Av:=by simp
  have g3:=vC s0;obtain⟨s1,c9⟩:=nnH (xC o1);have g1:Hid (∀ W,CB 98 #[(o1:Int)] W s1):=fun W=>by rw[<-c9.out];exact jR o1 W (by omega)
  have n1:(s1.toList !=s1.toList)=Av:=by simp
  have i1:=vC s1;obtain⟨s5,f2⟩:=nnH (xC o5);have f7:Hid (∀ W,CB 98 #[(o5:Int)] W s5):=fun W=>by rw[<-f2.out];exact jR o5 W (by omega)
  have n5:(s5.toList !=s5.toList)=Av:=by simp
  have g8:=vC s5;have n2:((o2:Int) !=(o2:Int))=Av:=by simp
  have n3:((o3:Int) !=(o3:Int))=Av:=by simp
  have n4:((o4:Int) !=(o4:Int))=Av:=by simp
  obtain⟨t7,f5⟩:∃ x,((o7:Int) % 3==0)=x:=⟨_,rfl⟩;have n7:(t7 !=t7)=Av:=by simp
  obtain⟨t8,f6⟩:∃ x,((o8:Int) % 3==0)=x:=⟨_,rfl⟩;have n8:(t8 !=t8)=Av:=by simp
  obtain⟨t9,g0⟩:∃ x,((o9:Int) % 3==0)=x:=⟨_,rfl⟩;have n9:(t9 !=t9)=Av:=by simp
  obtain⟨a6,c1⟩:∃ x,((a5:Int) % 3==0)=x:=⟨_,rfl⟩;have n10:(a6 !=a6)=Av:=by simp
  have hd:mkL k S c=⟨s0,⟨s1,(o2:Int),(o3:Int),(o4:Int),s5,m,fun j=>xC (o6+j)⟩,t7,t8,t9,a6,jV a0 le,jV X lr⟩:=by
   have z0:k+tot (fun i=>wkS (S i)) c=Z:=HO.symm;have z1:Z+1=o1:=K.symm;have z2:Z+2=o2:=by have:=H.out;omega
   have z3:Z+3=o3:=by have:=M.out;omega
   have z4:Z+4=o4:=by have:=J.out;omega
   have z5:Z+5=o5:=by have:=D.out;omega
   have z6:Z+6=o6:=by have:=G.out;omega
   have z7:o6+m=o7:=C.out;have z8:Z+7+m=o8:=by have:=O.out;omega
   have z9:Z+8+m=o9:=by have:=L.out;omega
   have g2:Z+9+m=a5:=by have:=A.out;omega
   have f9:Z+10+m=a0:=by have:=u.out;omega
   have f3:a0+le=X:=q.out;unfold mkL mkX;rw[b9.out,b6.out,b8.out,z0,z1,z2,z3,z4,z5,z6,z7,z8,z9,g2,f9,f3,e7.out,c9.out,f2.out,f5,f6,g0,c1]
  obtain⟨b1,f1,p6,b2,b3,q6,b5,a8,rfl,R1,h6,b0,a9⟩:=QC (KH.below a3) hlt;rw[hd] at R1 h6 b0 a9;simp only[zT] at R1 h6 b0 a9;have KC:Hid (∀ W,Ab wr.1.size wr W->W.cell? (Q b1 (f1+c*13) I)=some (Ag s0)/\W.cell? (Q b1 (f1+c*13+1) I)=some (Ag s1)/\W.cell? (Q b1 (f1+c*13+2) I)=some (Ao Ar (o2:Int))/\W.cell? (Q b1 (f1+c*13+3) I)=some (Ao Ar (o3:Int))/\W.cell? (Q b1 (f1+c*13+4) I)=some (Ao Ar (o4:Int))/\W.cell? (Q b1 (f1+c*13+5) I)=some (Ag s5)/\W.cell? (Q b1 (f1+c*13+6) I)=some (V p6 m q6)/\W.cell? (Q b1 (f1+c*13+7) I)=some (.bool t7)/\W.cell? (Q b1 (f1+c*13+8) I)=some (.bool t8)/\W.cell? (Q b1 (f1+c*13+9) I)=some (.bool t9)/\W.cell? (Q b1 (f1+c*13+10) I)=some (.bool a6)/\W.cell? (Q b1 (f1+c*13+11) I)=some (V b2 le b5)/\W.cell? (Q b1 (f1+c*13+12) I)=some (V b3 lr a8)):=fun W hW=>by
   have R:∀ (j:Nat) (v:Aj),(slL ⟨s0,⟨s1,(o2:Int),(o3:Int),(o4:Int),s5,m,fun j=>xC (o6+j)⟩,t7,t8,t9,a6,jV a0 le,jV X lr⟩ (V p6 m q6) (V b2 le b5) (V b3 lr a8))[j]?=some v->W.cell? (Q b1 (f1+c*13+j) I)=some v:=fun j v hv=>(hW.cell (A7 (R1 j v hv))).trans (R1 j v hv)
   exact⟨R 0 _ rfl,R 1 _ rfl,R 2 _ rfl,R 3 _ rfl,R 4 _ rfl,R 5 _ rfl,R 6 _ rfl,R 7 _ rfl,R 8 _ rfl,R 9 _ rfl,R 10 _ rfl,R 11 _ rfl,R 12 _ rfl⟩
  have KT:Hid (∀ W,Ab wr.1.size wr W->CB 151 #[V p6 m q6,(o6:Int)] W (o7:Int)):=fun W hW=>jAx p6 m q6 o6 o7 W (h6.below hW) a4.1 (by omega) C.out
  have KE:Hid (∀ W,Ab wr.1.size wr W->CS 96 #[V b2 le b5,(a0:Int)] W (X:Int)):=fun W hW=>jJb b2 le b5 a0 X W (b0.below hW) a4.2.1 (by omega) q.out
  have KZ:Hid (∀ W,Ab wr.1.size wr W->CS 96 #[V b3 lr a8,(X:Int)] W (o13:Int)):=fun W hW=>jJb b3 lr a8 X o13 W (a9.below hW) a4.2.2 (by omega) B.out
  have g7:¬ ((o7:Int)<0):=by omega
  have h4:¬ ((X:Int)<0):=by omega
  have h0:¬ ((o13:Int)<0):=by omega
  have KBr:Hid (Ab w w wr):=a3;have c4:Hid (Ab wr.1.size wr wr):=Az _ _;clear R1 h6 b0 a9 a3 hd ho a4 KH;obtain⟨y0,_,_,_,_,_,_,_,_,_,_,_,_⟩:=KC wr c4;have Y:∀ d os,(grow (redrawn wr d) os).cell? (Q b1 (f1+c*13) I)=_:=fun d os=>cell_regrown y0 d os
  have NN:∀ d os,Ak prog 98 #[(Z:Int)] (grow (redrawn wr d) os) fun e w'=>e=Ae s0/\∃ p:Regrown,w'=grow (redrawn wr p.d) p.os:=fun d os=>Calls.regrown_of (f4 _)
  go_wp2_with fail
  refine wp_region_quiet_below (by kernel_rfl) (by kernel_rfl) ?_;repeat (go_big_quiet_step (with_reducible exact NN _ _))
  refine Ct ?_;intro _ a7;obtain⟨⟨dq,a1⟩,a2⟩:=a7;subst a2;obtain⟨v1,d0⟩:=nmH (grow (redrawn wr dq) a1);have c7:Hid (Ab wr.1.size wr v1):=by show Ab _ _ _;rw[d0.out];exact jA c4 (below_regrown wr dq a1)
  rw[<-d0.out];clear y0 Y NN;obtain⟨_,y1,_,_,_,_,_,_,_,_,_,_,_⟩:=KC v1 c7;have Y:∀ d os,(grow (redrawn v1 d) os).cell? (Q b1 (f1+c*13+1) I)=_:=fun d os=>cell_regrown y1 d os
  have NN:∀ d os,Ak prog 98 #[(o1:Int)] (grow (redrawn v1 d) os) fun e w'=>e=Ae s1/\∃ p:Regrown,w'=grow (redrawn v1 p.d) p.os:=fun d os=>Calls.regrown_of (g1 _)
  go_wp2_with fail
  refine wp_region_quiet_below (by kernel_rfl) (by kernel_rfl) ?_;repeat (go_big_quiet_step (with_reducible exact NN _ _))
  refine Ct ?_;intro _ a7;obtain⟨⟨dq,a1⟩,a2⟩:=a7;subst a2;obtain⟨v2,e0⟩:=nmH (grow (redrawn v1 dq) a1);have b7:Hid (Ab wr.1.size wr v2):=by show Ab _ _ _;rw[e0.out];exact jA c7 (below_regrown v1 dq a1)
  rw[<-e0.out];clear y1 Y NN;obtain⟨_,_,y2,y3,y4,_,_,_,_,_,_,_,_⟩:=KC v2 b7;go_wp2_with fail
  clear y2 y3 y4;obtain⟨_,_,_,_,_,y5,_,_,_,_,_,_,_⟩:=KC v2 b7;have Y:∀ d os,(grow (redrawn v2 d) os).cell? (Q b1 (f1+c*13+5) I)=_:=fun d os=>cell_regrown y5 d os
  have NN:∀ d os,Ak prog 98 #[(o5:Int)] (grow (redrawn v2 d) os) fun e w'=>e=Ae s5/\∃ p:Regrown,w'=grow (redrawn v2 p.d) p.os:=fun d os=>Calls.regrown_of (f7 _)
  refine wp_region_quiet_below (by kernel_rfl) (by kernel_rfl) ?_;repeat (go_big_quiet_step (with_reducible exact NN _ _))
  refine Ct ?_;intro _ a7;obtain⟨⟨dq,a1⟩,a2⟩:=a7;subst a2;obtain⟨v3,f0⟩:=nmH (grow (redrawn v2 dq) a1);have c0:Hid (Ab wr.1.size wr v3):=by show Ab _ _ _;rw[f0.out];exact jA b7 (below_regrown v2 dq a1)
  rw[<-f0.out];clear y5 Y NN;obtain⟨_,_,_,_,_,_,y6,_,_,_,_,_,_⟩:=KC v3 c0;go_wp2_with fail
  refine Ax (KT _ c0) ?_;rintro e v4 ⟨rfl,b4⟩;have KB4:Hid (Ab wr.1.size wr v4):=jA c0 b4;clear y6 b4;obtain⟨_,_,_,_,_,_,_,y7,y8,y9,i2,i4,g6⟩:=KC v4 KB4;go_wp2_with fail
  refine Ax (KE _ KB4) ?_;rintro e v5 ⟨rfl,hw⟩;obtain rfl:=hw.symm;clear hw;go_wp2_with fail
  refine Ax (KZ _ KB4) ?_;rintro e v5 ⟨rfl,hw⟩;obtain rfl:=hw.symm;clear hw;go_wp2
  go_roundw
  case rel=>exact⟨c+1,o13,by omega,by go_num,by go_num,HNX2.out,jA KBr.out KB4⟩
  case measure=>simp[intOf];omega
end Go.Proofs.YtcaejlalnjnifaaGreat
