import Derived.Test.YtcaejlalnjnifaaGreatP50
import Derived.Test.YtcaejlalnjnifaaGreatP47
import Derived.Test.YtcaejlalnjnifaaGreatP42
set_option maxHeartbeats 8000000
set_option maxRecDepth 2000
open Go.Value renaming slice->V,pointer->Af,string->Ag,tuple->Ah,agg->Ai,int->Ao,oneCell'->Aq
open Option renaming none->I,some->M
open Go.RowKit renaming Hid->H,Below->Ab
open Go.Addr renaming mk->Q
open Go renaming undef->O,World->Ad,Value->Aj,Calls->Ak,Addr->Al,maxLen->Au
open Go.Obj renaming cells->J
open Go.Ending renaming returned->Ae
open Go.IntKind renaming i64->Ar
open Bool renaming false->Av,true->Aw
open Go.Proofs.Tryz
open Go.ChangeShapes Go.WideShapes Go.ChangeAt Go.RowKit
namespace Go.Proofs.YtcaejlalnjnifaaGreat
open Go.ChangeShapes Go.WideShapes Go.ChangeAt Go.RowKit Go.Sort
abbrev opC (o:Op9) (v:Aj):Array Aj:=#[Ao Ar o.k,Ao Ar o.a,Ao Ar o.y.k,Ao Ar o.y.f,Ao Ar o.y.t,Ag o.y.r,Ag o.y.p.r,Ao Ar o.y.p.k,Ao Ar o.y.p.n,Ao Ar o.y.p.i,Ag o.y.p.b,v,Ag o.s]
abbrev opV (o:Op9) (v:Aj):Aj:=Ai (opC o v)
theorem HaE.from {w w0 w':Ad} {B Hb:Nat} {f:Int} {n:Nat} {zs:List Int} {gs cs:Nat} {vl:Aj} {b:Nat} {Fs Fl Fw:Nat->Prop} {T:Ns} (h:HaE w0 w' B Hb f n zs gs cs vl b Fs Fl Fw T) (hb:Ab w w w0):HaE w w' B Hb f n zs gs cs vl b Fs Fl Fw T:=by
 obtain⟨v,F1,F2,h1,h2⟩:=h;exact⟨v,F1,F2,h1,(Trn.ofBelow _ hb).trans h2⟩
theorem jL0 (B Hb:Nat) (f:Int) (n:Nat) (zs:List Int) (gs cs:Nat) (vl:Aj) (b:Nat) (T:Ns) (vw:Aj) (Fs Fl Fw:Nat->Prop) (a:Int) (y:Sy) (s:BA) (v9:Aj) (w:Ad) (h:HaK w B Hb f n T.N zs (V gs n cs) vl b T.m T.Y vw Fs Fl Fw) (hG:NsG f n zs T):Ak prog 67 #[Af Hb,opV ⟨0,a,y,s⟩ v9] w fun e w'=>∃ ok:Bool,e=Ae ok/\(ok=Aw↔(0<=a/\a<T.m)/\(hrT n zs T a.toNat).m<=3000)/\HaE w w' B Hb f n zs gs cs vl b Fs Fl Fw (if ok then hrT n zs T a.toNat else T):=by
 obtain⟨X,HX⟩:=nmH w.1.size;obtain⟨w0,a0⟩:=nmH (w.alloc (J (opC ⟨0,a,y,s⟩ v9) 50));have R0:=(jZ a0 HX).out;have b0:=bl1 a0;have KB:=hd b0;have h0:=h.below b0;have x0:=R0.cell 0;have x1:=R0.cell 1;simp at x0 x1;have KH:H _:=jI6 B Hb f n zs gs cs vl b T vw Fs Fl Fw a w0 h0 hG;go_enter func67,Gl
 go_upto_region 1 with fail
 rw[<-a0.out,<-HX.out];go_wp2_with fail
 refine Ax KH.out ?_;rintro e w1 ⟨ok,rfl,c0,hE⟩;have KE:=hd hE;have KK:H _:=c0;go_wp2
 go_ret
 exact⟨ok,rfl,KK,KE.from KB⟩
theorem jPb (B Hb:Nat) (f:Int) (n:Nat) (zs:List Int) (gs cs:Nat) (vl:Aj) (b:Nat) (T:Ns) (vw:Aj) (Fs Fl Fw:Nat->Prop) (a:Int) (y:Sy) (s:BA) (a9:OA) (c9:Nat) (w:Ad) (h:HaK w B Hb f n T.N zs (V gs n cs) vl b T.m T.Y vw Fs Fl Fw) (hG:NsG f n zs T) (hK:SyK y) (hT:∀ W,Trn w W (fun x=>x=Hb\/Fs x\/Fw x)->jK W a9 y.p.m y.p.S):Ak prog 67 #[Af Hb,opV ⟨2,a,y,s⟩ (V a9 y.p.m c9)] w fun e w'=>∃ ok:Bool,e=Ae ok/\(ok=Aw↔y.f∈zs/\(0<=y.t/\y.t<n)/\T.m<3000)/\HaE w w' B Hb f n zs gs cs vl b Fs Fl Fw (if ok then ⟨T.N,T.m+1,wyS T.m T.Y (fun _=>y)⟩ else T):=by
 obtain⟨X,HX⟩:=nmH w.1.size;obtain⟨w0,a0⟩:=nmH (w.alloc (J (opC ⟨2,a,y,s⟩ (V a9 y.p.m c9)) 50));have R0:=(jZ a0 HX).out;have b0:=bl1 a0;have KB:=hd b0;have h0:=h.below b0;have x0:=R0.cell 0;simp at x0;have KM:H (w0.rangeAt X 2 (syC y (V a9 y.p.m c9)).toList):=fun j v hv=>by
  have hj:j<10:=by
   rcases F0 j 10 with k|k
   .exact k
   .rw[Bb (by simpa using k)] at hv;cases hv
  have:=R0.cell (2+j)
  rw[this];match j,hj with
  | 0,_|1,_|2,_|3,_|4,_|5,_|6,_|7,_|8,_|9,_=>simpa using hv
 have KH:H _:=jL1 B Hb f n T.N zs gs cs vl b T.m T.Y vw Fs Fl Fw y a9 c9 w0 h0 hG.n10.2.2.1 hK (fun W hW=>hT W ((Trn.ofBelow _ b0).trans (hW.mono (fun x hx=>hx.elim .inl (fun k=>.inr (.inr k))))));go_enter func67,Gl
 go_upto_region 1 with fail
 rw[<-a0.out,<-HX.out];go_wp2_with (refine Bv rfl 31 _ rfl X 2 rfl (syC y (V a9 y.p.m c9)).toList _ ?_ Cd rfl Tryz.infoSy ?_;exact KM)
 refine Ax KH.out ?_;rintro e w1 ⟨d0,c0,rfl,hk,t⟩;have KE:H (HaE w0 w1 B Hb f n zs gs cs vl b Fs Fl Fw (if decide (y.f∈zs/\(0<=y.t/\y.t<n)/\T.m<3000) then ⟨T.N,T.m+1,wyS T.m T.Y (fun _=>y)⟩ else T)):=by
  by_cases c:y.f∈zs/\(0<=y.t/\y.t<n)/\T.m<3000
  .rw[A6 c] at hk;rw[Bf c,A6 rfl];exact⟨d0,Fs,c0,hk,t.mono (fun x hx=>hx.elim .inl (fun k=>.inr (.inr k)))⟩
  .rw[A5 c] at hk;rw[Bh c];exact⟨d0,Fs,c0,hk.ways (fun i hi=>A6 hi),t.mono (fun x hx=>hx.elim .inl (fun k=>.inr (.inr k)))⟩
 obtain⟨ok,HK⟩:=nnH (decide (y.f∈zs/\(0<=y.t/\y.t<n)/\T.m<3000));rw[HK.out] at KE |-;go_wp2
 go_ret
 exact⟨ok,rfl,by rw[<-HK.out];exact Gr,KE.from KB⟩
theorem jI4 (B Hb:Nat) (f:Int) (n:Nat) (zs:List Int) (gs cs:Nat) (vl:Aj) (b:Nat) (T:Ns) (vw:Aj) (Fs Fl Fw:Nat->Prop) (a:Int) (y:Sy) (s:BA) (v9:Aj) (w:Ad) (h:HaK w B Hb f n T.N zs (V gs n cs) vl b T.m T.Y vw Fs Fl Fw) (hG:NsG f n zs T) (hs:s.size<=1048576):Ak prog 67 #[Af Hb,opV ⟨3,a,y,s⟩ v9] w fun e w'=>∃ ok:Bool,e=Ae ok/\(ok=Aw↔brB s f=Aw/\T.m+brN s f<=3000)/\HaE w w' B Hb f n zs gs cs vl b Fs Fl Fw (if ok then ⟨T.N,T.m+brN s f,wyS T.m T.Y (brS s f)⟩ else T):=by
 obtain⟨X,HX⟩:=nmH w.1.size;obtain⟨w0,a0⟩:=nmH (w.alloc (J (opC ⟨3,a,y,s⟩ v9) 50));have R0:=(jZ a0 HX).out;have b0:=bl1 a0;have KB:=hd b0;have h0:=h.below b0;have x0:=R0.cell 0;have e0:=R0.cell 12;simp at x0 e0;have KH:H _:=jHb B Hb f n T.N zs (V gs n cs) vl b T.m T.Y vw Fs Fl Fw s w0 h0 hs hG.n10.2.2.1 jCp.1 (by have:=(jCp (s:=s) (f:=f)).2;omega);go_enter func67,Gl
 go_upto_region 1 with fail
 rw[<-a0.out,<-HX.out];go_wp2_with fail
 refine Ax KH.out ?_;rintro e w1 ⟨d0,c0,rfl,hk,t⟩;obtain⟨ok,HK⟩:=nnH ((brB s f&&decide (T.m+brN s f<=3000)));rw[HK.out] at hk |-;have KE:H (HaE w0 w1 B Hb f n zs gs cs vl b Fs Fl Fw (if ok then ⟨T.N,T.m+brN s f,wyS T.m T.Y (brS s f)⟩ else T)):=by
  cases ok with
  | true=>exact⟨d0,Fs,c0,hk,t.mono (fun x hx=>hx.elim .inl (fun k=>.inr (.inr k)))⟩
  | false=>exact⟨d0,Fs,c0,hk.ways (fun i hi=>A6 hi),t.mono (fun x hx=>hx.elim .inl (fun k=>.inr (.inr k)))⟩
 go_wp2
 go_ret
 exact⟨ok,rfl,by rw[<-HK.out,Cr,Gr],KE.from KB⟩
theorem jLz (B Hb:Nat) (f:Int) (n:Nat) (zs:List Int) (gs cs:Nat) (vl:Aj) (b:Nat) (T:Ns) (vw:Aj) (Fs Fl Fw:Nat->Prop) (k a:Int) (y:Sy) (s:BA) (v9:Aj) (w:Ad) (h:HaK w B Hb f n T.N zs (V gs n cs) vl b T.m T.Y vw Fs Fl Fw) (k0:k≠0) (k1:k≠1) (k2:k≠2) (k3:k≠3):Ak prog 67 #[Af Hb,opV ⟨k,a,y,s⟩ v9] w fun e w'=>e=Ae Av/\HaE w w' B Hb f n zs gs cs vl b Fs Fl Fw T:=by
 obtain⟨X,HX⟩:=nmH w.1.size;obtain⟨w0,a0⟩:=nmH (w.alloc (J (opC ⟨k,a,y,s⟩ v9) 50));have R0:=(jZ a0 HX).out;have b0:=bl1 a0;have KB:=hd b0;have h0:=h.below b0;have x0:=R0.cell 0;simp at x0;have KE:H (HaE w w0 B Hb f n zs gs cs vl b Fs Fl Fw T):=⟨vw,Fs,Fw,h0,Trn.ofBelow _ b0⟩;have e0:(k==0)=Av:=by simpa using k0
 have e1:(k==1)=Av:=by simpa using k1
 have e2:(k==2)=Av:=by simpa using k2
 have e3:(k==3)=Av:=by simpa using k3
 go_enter func67,Gl
 go_upto_region 1 with fail
 rw[<-a0.out,<-HX.out];go_wp2
 go_ret
 exact⟨rfl,KE⟩
theorem jPc (B Hb:Nat) (f:Int) (n:Nat) (zs:List Int) (gs cs:Nat) (vl:Aj) (b:Nat) (T:Ns) (vw:Aj) (Fs Fl Fw:Nat->Prop) (a:Int) (y:Sy) (s:BA) (v9:Aj) (w:Ad) (h:HaK w B Hb f n T.N zs (V gs n cs) vl b T.m T.Y vw Fs Fl Fw) (ha:¬ (0<=a/\a<T.m)):Ak prog 67 #[Af Hb,opV ⟨1,a,y,s⟩ v9] w fun e w'=>e=Ae Av/\HaE w w' B Hb f n zs gs cs vl b Fs Fl Fw T:=by
 obtain⟨X,HX⟩:=nmH w.1.size;obtain⟨w0,a0⟩:=nmH (w.alloc (J (opC ⟨1,a,y,s⟩ v9) 50));have R0:=(jZ a0 HX).out;have b0:=bl1 a0;have KB:=hd b0;have h0:=h.below b0;have x0:=R0.cell 0;have x1:=R0.cell 1;simp at x0 x1;obtain⟨a3,c3,rfl,_⟩:=h.y.shape;have KE:H (∀ W,Ab w0 w0 W->HaE w W B Hb f n zs gs cs vl b Fs Fl Fw T):=fun W hW=>⟨_,Fs,Fw,h0.below hW,Trn.ofBelow _ (jA b0 hW)⟩
 have J1:∀ d os,Ak prog 133 #[Af Hb,a] (grow (redrawn w0 d) os) fun e w'=>e=Ae Av/\∃ p:Regrown,w'=grow (redrawn w0 p.d) p.os:=fun d os=>Calls.regrown_of (by
  have:=xF Hb _ _ _ _ a3 T.m c3 a (grow (redrawn w0 d) os) (h0.r.below (below_regrown w0 d os) h0.r.lt)
  rw[Bh ha] at this;refine this.mono ?_;rintro e w' ⟨rfl,rfl⟩;exact⟨rfl,Az _ _⟩)
 have Z1:∀ d os,(grow (redrawn w0 d) os).cell? (Q X 1 I)=_:=fun d os=>cell_regrown x1 d os
 go_enter func67,Gl
 go_upto_region 1 with fail
 rw[<-a0.out,<-HX.out];go_upto_region 5 with fail
 refine wp_region_quiet_below (by kernel_rfl) (by kernel_rfl) ?_;repeat (go_big_quiet_step (with_reducible exact J1 _ _))
 refine Ct ?_;intro _ e0;obtain⟨⟨dq,f0⟩,c0⟩:=e0;subst c0;have d0:=hd (KE _ (below_regrown w0 dq f0));go_wp2
 go_ret
 exact⟨rfl,d0⟩
theorem jI5 (B Hb:Nat) (f:Int) (n:Nat) (N:Nat->Nd) (zs:List Int) (gs cs:Nat) (vl:Aj) (b m:Nat) (Y:Nat->Sy) (vw:Aj) (Fs Fl Fw:Nat->Prop) (a7:Nat) (y y9:Sy) (s:BA) (v9:Aj) (w:Ad) (h:HaK w B Hb f n N zs (.slice gs n cs) vl b m Y vw Fs Fl Fw) (hm:m<=3000) (hK:∀ i,i<m->SyK (Y i)) (ha:a7<m) (H9:H (Y a7=y9)):Ak prog 67 #[Af Hb,opV ⟨1,(a7:Int),y,s⟩ v9] w fun e w'=>e=Ae (decide (m<3000))/\HaE w w' B Hb f n zs gs cs vl b Fs Fl Fw (if m<3000 then ⟨N,m+1,wyS m Y (fun _=>y9)⟩ else ⟨N,m,Y⟩):=by
 obtain⟨X,HX⟩:=nmH w.1.size;obtain⟨w0,o0⟩:=nmH (w.alloc (J (opC ⟨1,(a7:Int),y,s⟩ v9) 50));have R0:=(jZ o0 HX).out;have b0:=bl1 o0;have KB:=hd b0;have h0:=h.below b0;obtain⟨a3,c3,rfl,_⟩:=h.y.shape;obtain⟨bb,fb,a9,c9,rfl,q0,t9⟩:=zY h0.y.rd ha;rw[H9.out] at q0 t9;have v0:SyK y9:=by rw[<-H9.out];exact hK a7 ha
 have RG:H (∀ W,Ab w0 w0 W->W.rangeAt bb (fb+a7*10) (syC y9 (.slice a9 y9.p.m c9)).toList):=fun W hW j v hv=>by
  have:=q0 j v hv
  exact(hW.cell (A7 this)).trans this
 have KO:H (∀ W,Ab w0 w0 W->CS 133 #[Af Hb,(a7:Int)] W Aw):=fun W hW=>by
  have:=xF Hb _ _ _ _ (Q bb fb I) m c3 (a7:Int) W (h0.r.below hW h0.r.lt)
  rw[Bf ⟨by omega,by omega⟩] at this;exact this
 have RX:=hd R0;have RH:=hd h0.r;have z0:(a7:Int)<(m:Int):=by omega
 have x0:=R0.cell 0;simp at x0;by_cases c:m<3000
 .rw[Bf c,A6 c];have KS:H (∀ W g4,Ab w0 w0 W->Row W g4 31 (syC y9 (.slice a9 y9.p.m c9))->w0.1.size<=g4->Ak prog 134 #[Af Hb,.slice (Q g4 0 I) 1 1] W fun e w'=>e=Ae Aw/\HaE w0 w' B Hb f n zs gs cs vl b Fs Fl Fw ⟨N,m+1,wyS m Y (fun _=>y9)⟩):=fun W g4 hW r4 l4=>by
   have hA:=h0.below hW;refine(QI B Hb f _ vl (.map (M b)) m Y _ Fw (Q g4 0 I) 1 1 (fun _=>y9) W hA.hw (by omega) (fun _ _=>v0) (by have h1:=hA.b.2.2;have h2:=hA.r.lt;omega) (fun x hx=>(hA.h x (.inr (.inr hx))).2.2.2) (fun c V hc _ hV=>?_)).mono ?_
   .have r0:=hV (by omega);exact jLa (r4.below r0 r4.lt) ((t9.below hW).below r0)
   .rintro e w' ⟨rfl,y0,F',hk,t,hF,u0⟩;exact⟨rfl,y0,Fs,F',hA.sent hk t hF u0,(Trn.ofBelow _ hW).trans (t.mono (fun x hx=>hx.elim .inl (fun k=>.inr (.inr k))))⟩
  suffices main:Ak prog 67 #[Af Hb,opV ⟨1,(a7:Int),y,s⟩ v9] w fun e w'=>e=Ae Aw/\HaE w0 w' B Hb f n zs gs cs vl b Fs Fl Fw ⟨N,m+1,wyS m Y (fun _=>y9)⟩ from main.mono (fun e w' k=>⟨k.1,HaE.from k.2 KB⟩)
  go_enter func67,Gl
  go_upto_region 1 with fail
  rw[<-o0.out,<-HX.out];go_upto_region 5 with fail
  refine JE Tryz.mixed 18 [([],[14,15]),([],[14,15]),([1],[2,14,15]),([0,2],[3,14,15]),([3],[14,15]),([4],[15]),([4],[14,15]),([4,6],[14,15]),([4,7],[14,15]),([4,8],[9,14,15]),([4],[14,15]),([4,10],[11,14,15]),([4,9,11],[14,15]),([4,12],[13,14,15]),([4,13],[14,15]),([4,5,14],[15]),([4,14,15],[]),([14,15,16],[])] (by kernel_rfl) (fun L A9 W=>∃ (g4:Nat),A9=⟨(List.toArray (α:=Aj) ((Af Hb)::(opV {k:=1,a:=(a7:Int),y:=y,s:=s} v9)::O::(Af X)::(cX (L 17) Aw Av)::(Af X)::((1:Int))::(Av)::(Av)::O::O::O::O::(Aw)::(Aw)::(cX (L 0) (Af Hb) O)::(cX (L 1) (Af (Q X 1 I)) O)::(cX (L 2) (a7:Int) O)::(cX (L 3) Aw O)::(cX (L 4) Aw O)::(cX (L 5) (Af Hb) O)::(cX (L 6) (Af Hb) O)::(cX (L 7) (Af Hb) O)::(cX (L 8) (Af (Q Hb 4 I)) O)::(cX (L 9) (.slice (Q bb fb I) m c3) O)::(cX (L 10) (Af (Q X 1 I)) O)::(cX (L 11) (a7:Int) O)::(cX (L 12) (Af (Q bb (fb+a7*10) I)) O)::(cX (L 13) (Ai (syC y9 (.slice a9 y9.p.m c9))) O)::(cX (L 14) (.slice (Q g4 0 I) 1 1) O)::(cX (L 15) Aw O)::(cX (L 16) Aw O)::O::O::O::O::O::O::O::O::O::O::O::O::[])),[]⟩/\(L 15=Av->Ab w0 w0 W)/\(L 14=Aw->L 15=Av->Row W g4 31 (syC y9 (.slice a9 y9.p.m c9))/\w0.1.size<=g4)/\(L 15=Aw->HaE w0 W B Hb f n zs gs cs vl b Fs Fl Fw ⟨N,m+1,wyS m Y (fun _=>y9)⟩)) ?_ ?_ ?_
  .exact⟨0,rfl,(fun _=>jD _),(fun h=>by cases h),(fun h=>by cases h)⟩
  .rintro a9 wx ⟨g4,n0,-,-,g0⟩;simp only[Nat.reduceLT,Dn,jJ] at n0;subst n0;replace g0:=(g0 rfl)
   have KE:=hd g0;go_wp2
   go_ret
   exact⟨rfl,KE⟩
  .intro q9 p0 L a9 W S e0;match q9,p0 with
   | 0,_|1,_|4,_|5,_|6,_|7,_|8,_|10,_|12,_|16,_|17,_=>
    obtain⟨g4,rfl,hf⟩:=e0;simp only[knT,kn,knN] at S;first|refine jB rfl (fun _=>rfl) fun K hK=>?_|refine qP rfl (by simp only[S,jJ];rfl) fun K hK=>?_
    try simp only[S,jJ]
    go_simp
    exact hK _ _ ⟨g4,(by simp only[Nat.reduceBEq,Be,Bp,jJ,S]),hf⟩
   | 2,_=>
    obtain⟨g4,rfl,h0,h1,h2⟩:=e0;obtain⟨d1,e2,c0,a0,-⟩:=S;have hb:=h0 a0;have x1:=(RX.below hb RX.lt).cell 1;simp at x1;refine jB rfl (fun _=>rfl) fun K hK=>?_
    simp only[d1,jJ];go_simp
    exact hK _ _ ⟨g4,(by simp only[Nat.reduceBEq,Be,Bp,jJ,d1,c0,a0]),h0,(ab c0),(ab a0)⟩
   | 3,_=>
    obtain⟨g4,rfl,h0,h1,h2⟩:=e0;obtain⟨d0,d2,e3,c0,a0,-⟩:=S;have hb:=h0 a0;refine jB rfl (fun _=>rfl) fun K hK=>?_
    simp only[d0,d2,jJ];go_simp
    refine Ax (KO W hb) ?_;rintro e w9 ⟨rfl,rfl⟩;exact hK _ _ ⟨g4,(by simp only[Nat.reduceBEq,Be,Bp,jJ,d0,d2,c0,a0]),h0,(ab c0),(ab a0)⟩
   | 9,_=>
    obtain⟨g4,rfl,h0,h1,h2⟩:=e0;obtain⟨d4,d8,e9,c0,a0,-⟩:=S;have hb:=h0 a0;have x1:=(RH.below hb RH.lt).cell 4;simp at x1;refine qP rfl (by simp only[d4,jJ];rfl) fun K hK=>?_
    simp only[d4,d8,jJ];go_simp
    exact hK _ _ ⟨g4,(by simp only[Nat.reduceBEq,Be,Bp,jJ,d4,d8,c0,a0]),h0,(ab c0),(ab a0)⟩
   | 11,_=>
    obtain⟨g4,rfl,h0,h1,h2⟩:=e0;obtain⟨d4,i0,s0,c0,a0,-⟩:=S;have hb:=h0 a0;have x1:=(RX.below hb RX.lt).cell 1;simp at x1;refine qP rfl (by simp only[d4,jJ];rfl) fun K hK=>?_
    simp only[d4,i0,jJ];go_simp
    exact hK _ _ ⟨g4,(by simp only[Nat.reduceBEq,Be,Bp,jJ,d4,i0,c0,a0]),h0,(ab c0),(ab a0)⟩
   | 13,_=>
    obtain⟨g4,rfl,h0,h1,h2⟩:=e0;obtain⟨d4,j0,t0,c0,a0,-⟩:=S;have hb:=h0 a0;refine qP rfl (by simp only[d4,jJ];rfl) fun K hK=>?_
    simp only[d4,j0,jJ];refine G7 31 _ rfl bb (fb+a7*10) rfl (syC y9 (.slice a9 y9.p.m c9)).toList _ (RG W hb) Cd rfl Tryz.infoSy ?_;exact hK _ _ ⟨g4,(by simp[Act.put,jJ,d4,j0]),h0,(ab c0),(ab a0)⟩
   | 14,_=>
    obtain⟨g4,rfl,h0,h1,h2⟩:=e0;obtain⟨d4,m0,c0,a0,-⟩:=S;have hb:=h0 a0;refine qP rfl (by simp only[d4,jJ];rfl) fun K hK=>?_
    simp only[d4,m0,jJ];go_simp
    exact hK _ _ ⟨W.1.size,(by simp only[Nat.reduceBEq,Be,Bp,jJ,jCr,d4,m0,a0]),(fun k0=>hb.alloc hb.size _),(fun k0 k1=>⟨Row.new W _ _,hb.size⟩),(ab a0)⟩
   | 15,_=>
    obtain⟨g4,rfl,h0,h1,h2⟩:=e0;obtain⟨d4,d5,f0,a0,-⟩:=S;have hb:=h0 a0;obtain⟨r4,l4⟩:=h1 f0 a0;refine qP rfl (by simp only[d4,jJ];rfl) fun K hK=>?_
    simp only[d4,d5,f0,jJ];go_simp
    refine Ax (KS W g4 hb r4 l4) ?_;rintro e w9 ⟨rfl,hE⟩;exact hK _ _ ⟨g4,(by simp only[Nat.reduceBEq,Be,Bp,jJ,d4,d5,f0]),nf,(fun _=>nf),(fun k0=>hE)⟩
   | n9+18,h=>exact Bo h (by omega)
 .rw[Bh c,A5 c];have KS:H (∀ W g4,Ab w0 w0 W->Row W g4 31 (syC y9 (.slice a9 y9.p.m c9))->w0.1.size<=g4->Ak prog 134 #[Af Hb,.slice (Q g4 0 I) 1 1] W fun e w'=>e=Ae Av/\HaE w0 w' B Hb f n zs gs cs vl b Fs Fl Fw ⟨N,m,Y⟩):=fun W g4 hW r4 l4=>by
   have hA:=h0.below hW;refine(jBo B Hb f _ vl (.map (M b)) m Y _ Fw (Q g4 0 I) 1 1 W hA.hw hm (by omega) (by omega)).mono ?_;rintro e w' ⟨rfl,rfl⟩;exact⟨rfl,_,Fs,Fw,hA,Trn.ofBelow _ hW⟩
  suffices main:Ak prog 67 #[Af Hb,opV ⟨1,(a7:Int),y,s⟩ v9] w fun e w'=>e=Ae Av/\HaE w0 w' B Hb f n zs gs cs vl b Fs Fl Fw ⟨N,m,Y⟩ from main.mono (fun e w' k=>⟨k.1,HaE.from k.2 KB⟩)
  go_enter func67,Gl
  go_upto_region 1 with fail
  rw[<-o0.out,<-HX.out];go_upto_region 5 with fail
  refine JE Tryz.mixed 18 [([],[14,15]),([],[14,15]),([1],[2,14,15]),([0,2],[3,14,15]),([3],[14,15]),([4],[15]),([4],[14,15]),([4,6],[14,15]),([4,7],[14,15]),([4,8],[9,14,15]),([4],[14,15]),([4,10],[11,14,15]),([4,9,11],[14,15]),([4,12],[13,14,15]),([4,13],[14,15]),([4,5,14],[15]),([4,14,15],[]),([14,15,16],[])] (by kernel_rfl) (fun L A9 W=>∃ (g4:Nat),A9=⟨(List.toArray (α:=Aj) ((Af Hb)::(opV {k:=1,a:=(a7:Int),y:=y,s:=s} v9)::O::(Af X)::(cX (L 17) Av Av)::(Af X)::((1:Int))::(Av)::(Av)::O::O::O::O::(Aw)::(Aw)::(cX (L 0) (Af Hb) O)::(cX (L 1) (Af (Q X 1 I)) O)::(cX (L 2) (a7:Int) O)::(cX (L 3) Aw O)::(cX (L 4) Aw O)::(cX (L 5) (Af Hb) O)::(cX (L 6) (Af Hb) O)::(cX (L 7) (Af Hb) O)::(cX (L 8) (Af (Q Hb 4 I)) O)::(cX (L 9) (.slice (Q bb fb I) m c3) O)::(cX (L 10) (Af (Q X 1 I)) O)::(cX (L 11) (a7:Int) O)::(cX (L 12) (Af (Q bb (fb+a7*10) I)) O)::(cX (L 13) (Ai (syC y9 (.slice a9 y9.p.m c9))) O)::(cX (L 14) (.slice (Q g4 0 I) 1 1) O)::(cX (L 15) Av O)::(cX (L 16) Av O)::O::O::O::O::O::O::O::O::O::O::O::O::[])),[]⟩/\(L 15=Av->Ab w0 w0 W)/\(L 14=Aw->L 15=Av->Row W g4 31 (syC y9 (.slice a9 y9.p.m c9))/\w0.1.size<=g4)/\(L 15=Aw->HaE w0 W B Hb f n zs gs cs vl b Fs Fl Fw ⟨N,m,Y⟩)) ?_ ?_ ?_
  .exact⟨0,rfl,(fun _=>jD _),(fun h=>by cases h),(fun h=>by cases h)⟩
  .rintro a9 wx ⟨g4,n0,-,-,g0⟩;simp only[Nat.reduceLT,Dn,jJ] at n0;subst n0;replace g0:=(g0 rfl)
   have KE:=hd g0;go_wp2
   go_ret
   exact⟨rfl,KE⟩
  .intro q9 p0 L a9 W S e0;match q9,p0 with
   | 0,_|1,_|4,_|5,_|6,_|7,_|8,_|10,_|12,_|16,_|17,_=>
    obtain⟨g4,rfl,hf⟩:=e0;simp only[knT,kn,knN] at S;first|refine jB rfl (fun _=>rfl) fun K hK=>?_|refine qP rfl (by simp only[S,jJ];rfl) fun K hK=>?_
    try simp only[S,jJ]
    go_simp
    exact hK _ _ ⟨g4,(by simp only[Nat.reduceBEq,Be,Bp,jJ,S]),hf⟩
   | 2,_=>
    obtain⟨g4,rfl,h0,h1,h2⟩:=e0;obtain⟨d1,e2,c0,a0,-⟩:=S;have hb:=h0 a0;have x1:=(RX.below hb RX.lt).cell 1;simp at x1;refine jB rfl (fun _=>rfl) fun K hK=>?_
    simp only[d1,jJ];go_simp
    exact hK _ _ ⟨g4,(by simp only[Nat.reduceBEq,Be,Bp,jJ,d1,c0,a0]),h0,(ab c0),(ab a0)⟩
   | 3,_=>
    obtain⟨g4,rfl,h0,h1,h2⟩:=e0;obtain⟨d0,d2,e3,c0,a0,-⟩:=S;have hb:=h0 a0;refine jB rfl (fun _=>rfl) fun K hK=>?_
    simp only[d0,d2,jJ];go_simp
    refine Ax (KO W hb) ?_;rintro e w9 ⟨rfl,rfl⟩;exact hK _ _ ⟨g4,(by simp only[Nat.reduceBEq,Be,Bp,jJ,d0,d2,c0,a0]),h0,(ab c0),(ab a0)⟩
   | 9,_=>
    obtain⟨g4,rfl,h0,h1,h2⟩:=e0;obtain⟨d4,d8,e9,c0,a0,-⟩:=S;have hb:=h0 a0;have x1:=(RH.below hb RH.lt).cell 4;simp at x1;refine qP rfl (by simp only[d4,jJ];rfl) fun K hK=>?_
    simp only[d4,d8,jJ];go_simp
    exact hK _ _ ⟨g4,(by simp only[Nat.reduceBEq,Be,Bp,jJ,d4,d8,c0,a0]),h0,(ab c0),(ab a0)⟩
   | 11,_=>
    obtain⟨g4,rfl,h0,h1,h2⟩:=e0;obtain⟨d4,i0,s0,c0,a0,-⟩:=S;have hb:=h0 a0;have x1:=(RX.below hb RX.lt).cell 1;simp at x1;refine qP rfl (by simp only[d4,jJ];rfl) fun K hK=>?_
    simp only[d4,i0,jJ];go_simp
    exact hK _ _ ⟨g4,(by simp only[Nat.reduceBEq,Be,Bp,jJ,d4,i0,c0,a0]),h0,(ab c0),(ab a0)⟩
   | 13,_=>
    obtain⟨g4,rfl,h0,h1,h2⟩:=e0;obtain⟨d4,j0,t0,c0,a0,-⟩:=S;have hb:=h0 a0;refine qP rfl (by simp only[d4,jJ];rfl) fun K hK=>?_
    simp only[d4,j0,jJ];refine G7 31 _ rfl bb (fb+a7*10) rfl (syC y9 (.slice a9 y9.p.m c9)).toList _ (RG W hb) Cd rfl Tryz.infoSy ?_;exact hK _ _ ⟨g4,(by simp[Act.put,jJ,d4,j0]),h0,(ab c0),(ab a0)⟩
   | 14,_=>
    obtain⟨g4,rfl,h0,h1,h2⟩:=e0;obtain⟨d4,m0,c0,a0,-⟩:=S;have hb:=h0 a0;refine qP rfl (by simp only[d4,jJ];rfl) fun K hK=>?_
    simp only[d4,m0,jJ];go_simp
    exact hK _ _ ⟨W.1.size,(by simp only[Nat.reduceBEq,Be,Bp,jJ,jCr,d4,m0,a0]),(fun k0=>hb.alloc hb.size _),(fun k0 k1=>⟨Row.new W _ _,hb.size⟩),(ab a0)⟩
   | 15,_=>
    obtain⟨g4,rfl,h0,h1,h2⟩:=e0;obtain⟨d4,d5,f0,a0,-⟩:=S;have hb:=h0 a0;obtain⟨r4,l4⟩:=h1 f0 a0;refine qP rfl (by simp only[d4,jJ];rfl) fun K hK=>?_
    simp only[d4,d5,f0,jJ];go_simp
    refine Ax (KS W g4 hb r4 l4) ?_;rintro e w9 ⟨rfl,hE⟩;exact hK _ _ ⟨g4,(by simp only[Nat.reduceBEq,Be,Bp,jJ,d4,d5,f0]),nf,(fun _=>nf),(fun k0=>hE)⟩
   | n9+18,h=>exact Bo h (by omega)
theorem jPa (B Hb:Nat) (f:Int) (n:Nat) (zs:List Int) (gs cs:Nat) (vl:Aj) (b:Nat) (T:Ns) (vw:Aj) (Fs Fl Fw:Nat->Prop) (o:Op9) (a9:OA) (c9:Nat) (w:Ad) (h:HaK w B Hb f n T.N zs (V gs n cs) vl b T.m T.Y vw Fs Fl Fw) (hG:NsG f n zs T) (hO:OpK o) (hT:∀ W,Trn w W (fun x=>x=Hb\/Fs x\/Fw x)->jK W a9 o.y.p.m o.y.p.S):Ak prog 67 #[Af Hb,opV o (V a9 o.y.p.m c9)] w fun e w'=>e=Ae (opB f n zs T o)/\HaE w w' B Hb f n zs gs cs vl b Fs Fl Fw (opT f n zs T o):=by
 obtain⟨k,a,y,s⟩:=o;have fin:∀ (P:Prop) (ok:Bool) (T':Ns) (w':Ad),(ok=Aw↔P)->(P↔OpP f n zs T ⟨k,a,y,s⟩)->(P->nxT f n zs T ⟨k,a,y,s⟩=T')->HaE w w' B Hb f n zs gs cs vl b Fs Fl Fw (if ok then T' else T)->Ending.returned (.bool ok)=Ae (opB f n zs T ⟨k,a,y,s⟩)/\HaE w w' B Hb f n zs gs cs vl b Fs Fl Fw (opT f n zs T ⟨k,a,y,s⟩):=fun P ok T' w' h1 h2 h3 h4=>by
  cases ok with
  | true=>
   have hp:=h1.1 rfl;have e:=jJ4 (h2.1 hp);unfold opT;rw[e,A6 rfl,h3 hp];exact⟨rfl,h4⟩
  | false=>
   have e:=jF7 (fun k=>by have:=h1.2 (h2.2 k);cases this);unfold opT;rw[e];exact⟨rfl,h4⟩
 by_cases k0:k=0
 .subst k0;refine(jL0 B Hb f n zs gs cs vl b T vw Fs Fl Fw a y s _ w h hG).mono ?_;rintro e w' ⟨ok,rfl,h1,h2⟩;refine fin _ ok _ w' h1 ⟨fun q=>.inl ⟨rfl,q⟩,fun q=>?_⟩ (fun _=>by unfold nxT;rw[A6 rfl]) h2;rcases q with q|q|q|q
  .exact q.2
  .exact Bo q.1 (by simp)
  .exact Bo q.1 (by simp)
  .exact Bo q.1 (by simp)
 by_cases k1:k=1
 .subst k1;by_cases ha:0<=a/\a<T.m
  .obtain⟨a7,rfl⟩:∃ k:Nat,a=(k:Int):=⟨a.toNat,by omega⟩;refine(jI5 B Hb f n T.N zs gs cs vl b T.m T.Y vw Fs Fl Fw a7 y (T.Y a7) s _ w h hG.n10.2.2.1 hG.y (by omega) rfl).mono ?_;rintro e w' ⟨rfl,h2⟩;refine fin (T.m<3000) (decide (T.m<3000)) ⟨T.N,T.m+1,wyS T.m T.Y (fun _=>T.Y a7)⟩ w' Gr ⟨fun q=>.inr (.inl ⟨rfl,ha,q⟩),fun q=>?_⟩ (fun _=>by unfold nxT;rw[A5 (by simp),A6 rfl];rfl) ?_
   .rcases q with q|q|q|q
    .exact Bo q.1 (by simp)
    .exact q.2.2
    .exact Bo q.1 (by simp)
    .exact Bo q.1 (by simp)
   .by_cases c:T.m<3000
    .rw[A6 c] at h2;rw[Bf c];exact h2
    .rw[A5 c] at h2;rw[Bh c];exact h2
  .refine(jPc B Hb f n zs gs cs vl b T vw Fs Fl Fw a y s _ w h ha).mono ?_;rintro e w' ⟨rfl,h2⟩;refine fin False Av T w' (by simp) ⟨fun q=>q.elim,fun q=>?_⟩ (fun q=>q.elim) h2;rcases q with q|q|q|q
   .exact Bo q.1 (by simp)
   .exact ha q.2.1
   .exact Bo q.1 (by simp)
   .exact Bo q.1 (by simp)
 by_cases k2:k=2
 .subst k2;refine(jPb B Hb f n zs gs cs vl b T vw Fs Fl Fw a y s a9 c9 w h hG hO.y hT).mono ?_;rintro e w' ⟨ok,rfl,h1,h2⟩;refine fin _ ok _ w' h1 ⟨fun q=>.inr (.inr (.inl ⟨rfl,q⟩)),fun q=>?_⟩ (fun _=>by unfold nxT;rw[A5 (by simp),A5 (by simp),A6 rfl]) h2;rcases q with q|q|q|q
  .exact Bo q.1 (by simp)
  .exact Bo q.1 (by simp)
  .exact q.2
  .exact Bo q.1 (by simp)
 by_cases k3:k=3
 .subst k3;refine(jI4 B Hb f n zs gs cs vl b T vw Fs Fl Fw a y s _ w h hG hO.s).mono ?_;rintro e w' ⟨ok,rfl,h1,h2⟩;refine fin _ ok _ w' h1 ⟨fun q=>.inr (.inr (.inr ⟨rfl,q⟩)),fun q=>?_⟩ (fun _=>by unfold nxT;rw[A5 (by simp),A5 (by simp),A5 (by simp)]) h2;rcases q with q|q|q|q
  .exact Bo q.1 (by simp)
  .exact Bo q.1 (by simp)
  .exact Bo q.1 (by simp)
  .exact q.2
 .refine(jLz B Hb f n zs gs cs vl b T vw Fs Fl Fw k a y s _ w h k0 k1 k2 k3).mono ?_;rintro e w' ⟨rfl,h2⟩;refine fin False Av T w' (by simp) ⟨fun q=>q.elim,fun q=>?_⟩ (fun q=>q.elim) h2;rcases q with q|q|q|q
  .exact k0 q.1
  .exact k1 q.1
  .exact k2 q.1
  .exact k3 q.1
end Go.Proofs.YtcaejlalnjnifaaGreat
namespace Go.Proofs.YtcaejlalnjnifaaGreat
structure NtQ (w:Ad) (B n:Nat) (N:Nat->Nd) (zs:List Int) (m:Nat) (Y:Nat->Sy) (v1 v2 v3:Aj) (F1 F2 F3:Nat->Prop):Prop where
 n:Ow w B (qS n N) v1 F1
 z:Ow w B (inD zs) v2 F2
 y:OwK w B 31 10 m (fun i=>syD (Y i)) v3 F3
 d1:∀ g,F1 g->¬ F2 g
 d2:∀ g,F1 g->¬ F3 g
 d3:∀ g,F2 g->¬ F3 g
 f:∀ x,F1 x\/F2 x\/F3 x->B<=x/\x<w.1.size
theorem NtQ.turn {w w':Ad} {B n:Nat} {N:Nat->Nd} {zs:List Int} {m:Nat} {Y:Nat->Sy} {v1 v2 v3:Aj} {F1 F2 F3:Nat->Prop} (h:NtQ w B n N zs m Y v1 v2 v3 F1 F2 F3) (hs:w.1.size<=w'.1.size) (ht:∀ x,F1 x\/F2 x\/F3 x->w'.1[x]?=w.1[x]?):NtQ w' B n N zs m Y v1 v2 v3 F1 F2 F3:=
 ⟨h.n.frame fun x hx _=>ht x (.inl hx),h.z.frame fun x hx _=>ht x (.inr (.inl hx)),h.y.frame fun x hx _=>ht x (.inr (.inr hx)),h.d1,h.d2,h.d3,fun x hx=>⟨(h.f x hx).1,Br (h.f x hx).2 hs⟩⟩
theorem NtQ.below {w w':Ad} {B n:Nat} {N:Nat->Nd} {zs:List Int} {m:Nat} {Y:Nat->Sy} {v1 v2 v3:Aj} {F1 F2 F3:Nat->Prop} (h:NtQ w B n N zs m Y v1 v2 v3 F1 F2 F3) (hb:Ab w w w'):NtQ w' B n N zs m Y v1 v2 v3 F1 F2 F3:=h.turn hb.size (fun x hx=>hb.block x (h.f x hx).2)
theorem OwK.base {w:Ad} {B B':Nat} {t:TypeId} {sz n:Nat} {f:Nat->Nat->Dt} {v:Aj} {F:Nat->Prop} (h:OwK w B t sz n f v F) (hB:B'<=B):OwK w B' t sz n f v F:=by
 rcases h with h|⟨g,k,cap,K,J,h1,h2,h3,h4⟩
 .exact .inl h
 .exact .inr ⟨g,k,cap,K,J,h1,h2,h3,h4.base hB⟩
theorem NtQ.base {w:Ad} {B B' n:Nat} {N:Nat->Nd} {zs:List Int} {m:Nat} {Y:Nat->Sy} {v1 v2 v3:Aj} {F1 F2 F3:Nat->Prop} (h:NtQ w B n N zs m Y v1 v2 v3 F1 F2 F3) (hB:B'<=B):NtQ w B' n N zs m Y v1 v2 v3 F1 F2 F3:=⟨h.n.base hB,h.z.base hB,h.y.base hB,h.d1,h.d2,h.d3,fun x hx=>⟨Bx hB (h.f x hx).1,(h.f x hx).2⟩⟩
def NtA (w W:Ad) (f:Int) (n:Nat) (zs:List Int) (T:Ns) (v:Aj):Prop:=∃ g1 c1 a2 c2 a3 c3 F1 F2 F3,v=ntV f (V (Q g1 0 I) n c1) (V a2 zs.length c2) (V a3 T.m c3)/\NtQ W w n T.N zs T.m T.Y (V (Q g1 0 I) n c1) (V a2 zs.length c2) (V a3 T.m c3) F1 F2 F3/\Ab w w W
theorem Tryz.infoOp:(Tryz.prog.info? 50).map (·.size)=M 13:=by kernel_rfl
noncomputable def doB (f:Int) (n:Nat) (zs:List Int) (T:Ns) (o:Op9):Bool:=ntB f n T.N zs T.m&&opB f n zs T o
noncomputable def doT (f:Int) (n:Nat) (zs:List Int) (T:Ns) (o:Op9):Ns:=if ntB f n T.N zs T.m then opT f n zs T o else T
theorem jJ1 {f:Int} {n:Nat} {N:Nat->Nd} {zs:List Int} {m:Nat} (h:ntB f n N zs m=Aw):NtP f n N zs m:=by
 rcases G9 (NtP f n N zs m) with k|k
 .exact k
 .rw[xO k] at h;cases h
theorem jMh (f:Int) (a:OA) (n c:Nat) (l:OA) (zs:List Int) (d:Nat) (e:OA) (m g:Nat) (N:Nat->Nd) (Y:Nat->Sy) (o:Op9) (v9:Aj) (w:Ad) (h1:Rd w (qS n N) (V a n c)) (h2:jH w l zs.length zs) (h3:Rd w (qJ m Y) (V e m g)) (hn:n<=1048576) (hz:zs.length<=1048576) (hm:m<=1048576) (hN:∀ i,i<n->(N i).n<=1048576/\∀ j,j<(N i).n->SlK ((N i).S j)) (hY:∀ i,i<m->SyK (Y i)) (hb:ntB f n N zs m=Av):Ak prog 18 #[ntV f (V a n c) (V l zs.length d) (V e m g),opV o v9] w fun r w'=>∃ v,r=Ae (Ah #[v,Av])/\NtA w w' f n zs ⟨N,m,Y⟩ v:=by
 obtain⟨A,HA⟩:=nmH w.1.size;obtain⟨C,HC⟩:=nmH (w.1.size+1);obtain⟨D,HD⟩:=nmH (w.1.size+1+1);obtain⟨w0,a0⟩:=nmH (((w.alloc (J #[f,V a n c,V l zs.length d,V e m g] 48)).alloc (J (opC o v9) 50)).alloc (J #[(),V I 0 0,V I 0 0,V I 0 0] 48));have RA:=zD a0 HA;have RC:=xL a0 HC;have RD:=xR a0 HD;have b0:=bl3 a0;have f0:=hd b0;have HL:H (w.1.size<=D/\D<w0):=⟨by have:=HD.out;omega,RD.out.lt⟩;have KN:H _:=jDh f a n c l zs d e m g N w0 (h1.below b0) (h2.below b0) hn hz (fun i hi=>⟨(hN i hi).1,fun j hj=>((hN i hi).2 j hj).ok⟩);have KC:H (∀ W,Ab w0 w0 W->_):=fun W hW=>ZK f a n c l zs d e m g N Y W ((h1.below b0).below hW) ((h2.below b0).below hW) ((h3.below b0).below hW) hn hz hm hN hY
 rw[hb] at KN;obtain⟨zl,j0⟩:=nnH zs.length;unfold NtA;rw[j0.out] at KC KN RA a0 |-;go_enter func18,ntmps18
 go_upto_region 1 with fail
 rw[<-a0.out,<-HD.out,<-HC.out,<-HA.out];go_wp2_with (refine Bg rfl 48 _ rfl A rfl 48 #[f,V a n c,V l zl d,V e m g] (0,0) _ ?_ Bu rfl Tryz.infoNt ?_;exact RA)
 refine Ax KN.out ?_;rintro r w1 ⟨rfl,b1⟩;have k0:=hd (RA.below b1 RA.lt);have g0:=RD.below b1 RD.lt;have e0:=hd b1;go_wp2_with (refine Bg rfl 48 _ rfl A rfl 48 #[f,V a n c,V l zl d,V e m g] (0,0) _ ?_ Bu rfl Tryz.infoNt ?_;exact k0)
 refine Ax (KC w1 e0) ?_;rintro r w2 ⟨g1,a2,c2,g3,F1,F2,F3,rfl,o1,i0,b2⟩;have h0:=hd (g0.below b2 g0.lt);obtain⟨w4,c0⟩:=nmH (w2.setRow D #[f,V g1 n n,V a2 zl c2,V g3 m m]);have d0:=rr c0 h0;have KF:H (NtQ w4 w n N zs m Y (V g1 n n) (V a2 zl c2) (V g3 m m) F1 F2 F3/\Ab w w w4):=by
  have s0:=f0.size;have s1:=e0.size;have lD:=HL.out;refine⟨?_,by rw[c0.out];exact jG (jA f0 (jA e0 b2)) lD.1 _⟩;have q:NtQ w2 w1 n N zs m Y (V g1 n n) (V a2 zl c2) (V g3 m m) F1 F2 F3:=⟨o1.n,o1.z,OwK.of o1.y,o1.d1,o1.d2,o1.d3,i0⟩;exact(q.turn (by rw[c0.out];simp) (fun x hx=>by rw[c0.out];exact Cj _ _ _ _ (by have:=(i0 x hx).1;omega))).base (by omega)
 go_wp2_with (refine Ca rfl 48 _ _ rfl D #[f,V g1 n n,V a2 zl c2,V g3 m m] rfl rfl 48 #[(),V I 0 0,V I 0 0,V I 0 0] ?_ Tryz.infoNt rfl (by simp[Aq]) ?_;exact h0;rw[<-c0.out])
 have p0:=d0.cell 0;have p1:=d0.cell 1;have p2:=d0.cell 2;have p3:=d0.cell 3;simp at p0 p1 p2 p3;exact B7 (v:=Ah #[Ai #[f,V g1 n n,V a2 zl c2,V g3 m m],Av]) (by simp[results,results18,go_sem,p0,p1,p2,p3]) rfl ⟨_,rfl,g1,n,a2,c2,_,_,F1,F2,F3,rfl,KF⟩
theorem jJx (f:Int) (a:OA) (n c:Nat) (l:OA) (zs:List Int) (d:Nat) (e:OA) (m g:Nat) (N:Nat->Nd) (Y:Nat->Sy) (o:Op9) (a9:OA) (c9:Nat) (w:Ad) (h1:Rd w (qS n N) (V a n c)) (h2:jH w l zs.length zs) (h3:Rd w (qJ m Y) (V e m g)) (hn:n<=1048576) (hz:zs.length<=1048576) (hm:m<=1048576) (hN:∀ i,i<n->(N i).n<=1048576/\∀ j,j<(N i).n->SlK ((N i).S j)) (hY:∀ i,i<m->SyK (Y i)) (h9:jK w a9 o.y.p.m o.y.p.S) (hO:OpK o) (hb:ntB f n N zs m=Aw):Ak prog 18 #[ntV f (V a n c) (V l zs.length d) (V e m g),opV o (V a9 o.y.p.m c9)] w fun r w'=>∃ v,r=Ae (Ah #[v,(opB f n zs ⟨N,m,Y⟩ o)])/\NtA w w' f n zs (opT f n zs ⟨N,m,Y⟩ o) v:=by
 obtain⟨A,HA⟩:=nmH w.1.size;obtain⟨C,HC⟩:=nmH (w.1.size+1);obtain⟨D,HD⟩:=nmH (w.1.size+1+1);obtain⟨w0,b0⟩:=nmH (((w.alloc (J #[f,V a n c,V l zs.length d,V e m g] 48)).alloc (J (opC o (V a9 o.y.p.m c9)) 50)).alloc (J #[(),V I 0 0,V I 0 0,V I 0 0] 48));have RA:=zD b0 HA;have RC:=xL b0 HC;have RD:=xR b0 HD;have a0:=bl3 b0;have n0:=hd a0;have HL:H (w.1.size<=D/\D<w0):=⟨by have:=HD.out;omega,RD.out.lt⟩;have KN:H _:=jDh f a n c l zs d e m g N w0 (h1.below a0) (h2.below a0) hn hz (fun i hi=>⟨(hN i hi).1,fun j hj=>((hN i hi).2 j hj).ok⟩);have KH:H (∀ W,Ab w0 w0 W->_):=fun W hW=>jHe f a n c l zs d e m g N Y W ((h1.below a0).below hW) ((h2.below a0).below hW) ((h3.below a0).below hW) hn hz hm hN hY
 have z0:=hd (h9.below a0);have KG:H (NsG f n zs ⟨N,m,Y⟩):=⟨jJ1 hb,fun i hi=>(hN i hi).2,hY⟩;have KO:=hd hO;rw[hb] at KN;obtain⟨zl,y0⟩:=nnH zs.length;obtain⟨T1,m0⟩:=nnH (opT f n zs ⟨N,m,Y⟩ o);obtain⟨ok,k0⟩:=nnH (opB f n zs ⟨N,m,Y⟩ o);unfold NtA;rw[y0.out] at KH KN RA b0 |-;rw[m0.out,k0.out];clear h1 h2 h3 a0 hN hY hb h9 hO;go_enter func18,ntmps18
 go_upto_region 1 with fail
 rw[<-b0.out,<-HD.out,<-HC.out,<-HA.out];go_wp2_with (refine Bg rfl 48 _ rfl A rfl 48 #[f,V a n c,V l zl d,V e m g] (0,0) _ ?_ Bu rfl Tryz.infoNt ?_;exact RA)
 refine Ax KN.out ?_;rintro r w1 ⟨rfl,b1⟩;have a1:=hd (RA.below b1 RA.lt);have h0:Row w1 C 50 (opC o (V a9 o.y.p.m c9)):=RC.below b1 RC.lt;have i0:Row w1 D 48 #[(),V I 0 0,V I 0 0,V I 0 0]:=RD.below b1 RD.lt;have d0:=hd b1;clear b1 KN;go_wp2_with (refine Bg rfl 48 _ rfl A rfl 48 #[f,V a n c,V l zl d,V e m g] (0,0) _ ?_ Bu rfl Tryz.infoNt ?_;exact a1)
 refine Ax (KH w1 d0) ?_;rintro r w2 ⟨Hb,gs,a2,c2,b,g3,Fs,Fl,Fw,rfl,hA,b2⟩;have c1:=hd (h0.below b2 h0.lt);have t0:Row w2 D 48 #[(),V I 0 0,V I 0 0,V I 0 0]:=i0.below b2 i0.lt;have KA:H _:=hA;have q0:H (∀ x,x=Hb\/Fs x\/Fw x->w1.1.size<=x):=fun x hx=>by
  rcases hx with k|k|k
  .rw[k];exact hA.b.2.2
  .exact(hA.h x (.inl k)).2.2.1
  .exact(hA.h x (.inr (.inr k))).2.2.1
 have g0:H _:=jPa w1 Hb f n zs gs n (V a2 zl c2) b ⟨N,m,Y⟩ _ Fs Fl Fw o a9 c9 w2 hA KG KO (fun W hW=>(z0.below d0).below (b2.trans (hW.below q0 b2.size)));rw[m0.out,k0.out] at g0;have f0:=hd b2;clear hA b2 h0 i0 KH;go_wp2_with (refine Bg rfl 50 _ rfl C rfl 50 (opC o (V a9 o.y.p.m c9)) (0,0) _ ?_ Fo rfl Tryz.infoOp ?_;exact c1)
 refine Ax g0.out ?_;rintro r w3 ⟨rfl,i1,v0,x0,hk,t3⟩;obtain⟨a3,c3,rfl,_⟩:=hk.y.shape;have b3:Ab w1 w2 w3:=t3.below q0 f0.size;have j0:Row w3 D 48 #[(),V I 0 0,V I 0 0,V I 0 0]:=(b3.block D (by have:=RD.lt;have:=d0.size;omega)).trans t0;have g1:=hk.h;have KQ:=hd hk;have r0:H _:=jL2 w1 Hb f n T1.N zs gs n (V a2 zl c2) b T1.m T1.Y (V a3 T1.m c3) v0 Fl x0 w3 hk hn;have o0:=hd b3;clear hk t3 b3 t0 g0 g1;go_wp2_with fail
 refine Ax r0.out ?_;rintro r w4 ⟨g4,rfl,o4,e1,f1,b4⟩;have u0:=hd (j0.below b4 j0.lt);obtain⟨w5,c0⟩:=nmH (w4.setRow D #[f,V g4 n n,V a2 zl c2,V a3 T1.m c3]);have e0:=rr c0 u0;have KF:H (∃ F1 F2 F3,NtQ w5 w n T1.N zs T1.m T1.Y (V g4 n n) (V a2 zl c2) (V a3 T1.m c3) F1 F2 F3/\Ab w w w5):=by
  have s0:=n0.size;have s1:=d0.size;have s2:=f0.size;have s3:=o0.size;have s4:=b4.size;have lD:=HL.out;have q:=KQ.out;have hq:=q.h;refine⟨_,_,_,NtQ.base (NtQ.turn (w:=w4) (B:=w1.1.size) ⟨o4,q.z.below b4,q.y.below b4,fun x hx k=>?_,fun x hx k=>?_,q.d3,fun x hx=>?_⟩ (by rw[c0.out];simp) (fun x hx=>?_)) (by omega),?_⟩
  .rcases hx with hx|hx
   .exact q.d1 x hx k
   .have:=(hq x (.inr (.inl k))).2.2.2;omega
  .rcases hx with hx|hx
   .exact q.d2 x hx k
   .have:=(hq x (.inr (.inr k))).2.2.2;omega
  .rcases hx with (hx|hx)|hx
   .have:=(hq x (.inl hx)).2.2;omega
   .omega
   .have:=(hq x (.inr hx)).2.2;omega
  .rw[c0.out];refine Cj _ _ _ _ ?_;rcases hx with (hx|hx)|hx
   .have:=(hq x (.inl hx)).2.2;omega
   .omega
   .have:=(hq x (.inr hx)).2.2;omega
  .rw[c0.out];have bb:Ab w w w4:=(jA n0 d0).trans (((f0.trans o0).mono (by omega)).trans (b4.mono (by omega)));exact jG bb lD.1 _
 clear o4 e1 f1 b4 j0 KQ r0;go_wp2_with (refine Ca rfl 48 _ _ rfl D #[f,V g4 n n,V a2 zl c2,V a3 T1.m c3] rfl rfl 48 #[(),V I 0 0,V I 0 0,V I 0 0] ?_ Tryz.infoNt rfl (by simp[Aq]) ?_;exact u0;rw[<-c0.out])
 have p0:=e0.cell 0;have p1:=e0.cell 1;have p2:=e0.cell 2;have p3:=e0.cell 3;simp at p0 p1 p2 p3;obtain⟨F1,F2,F3,kf⟩:=KF.out;exact B7 (v:=Ah #[Ai #[f,V g4 n n,V a2 zl c2,V a3 T1.m c3],ok]) (by simp[results,results18,go_sem,p0,p1,p2,p3]) rfl ⟨_,rfl,g4,n,a2,c2,a3,c3,F1,F2,F3,rfl,kf⟩
theorem jJw (f:Int) (a:OA) (n c:Nat) (l:OA) (zs:List Int) (d:Nat) (e:OA) (m g:Nat) (N:Nat->Nd) (Y:Nat->Sy) (o:Op9) (a9:OA) (c9:Nat) (w:Ad) (h1:Rd w (qS n N) (V a n c)) (h2:jH w l zs.length zs) (h3:Rd w (qJ m Y) (V e m g)) (hn:n<=1048576) (hz:zs.length<=1048576) (hm:m<=1048576) (hN:∀ i,i<n->(N i).n<=1048576/\∀ j,j<(N i).n->SlK ((N i).S j)) (hY:∀ i,i<m->SyK (Y i)) (h9:jK w a9 o.y.p.m o.y.p.S) (hO:OpK o):Ak prog 18 #[ntV f (V a n c) (V l zs.length d) (V e m g),opV o (V a9 o.y.p.m c9)] w fun r w'=>∃ v,r=Ae (Ah #[v,(doB f n zs ⟨N,m,Y⟩ o)])/\NtA w w' f n zs (doT f n zs ⟨N,m,Y⟩ o) v:=by
 unfold doB doT;cases hb:ntB f n N zs m with
 | false=>exact jMh f a n c l zs d e m g N Y o _ w h1 h2 h3 hn hz hm hN hY hb
 | true=>exact jJx f a n c l zs d e m g N Y o a9 c9 w h1 h2 h3 hn hz hm hN hY h9 hO hb
theorem OwK.turned {w w':Ad} {B:Nat} {t:TypeId} {sz n:Nat} {f:Nat->Nat->Dt} {v:Aj} {F F':Nat->Prop} (h:OwK w B t sz n f v F) (ht:Trn w w' F') (hd:∀ g,F g->¬ F' g):OwK w' B t sz n f v F:=h.frame fun g hg hl=>ht.block g hl (hd g hg)
theorem jEr (f:Int) (B n:Nat) (N:Nat->Nd) (zs:List Int) (m:Nat) (Y:Nat->Sy) (a l e:OA) (c d g:Nat) (F1 F2 F3:Nat->Prop) (w:Ad) (h:NtQ w B n N zs m Y (V a n c) (V l zs.length d) (V e m g) F1 F2 F3) (hs:NtW n N zs m Y):Ak prog 32 #[ntV f (V a n c) (V l zs.length d) (V e m g),(1:Int)] w fun r w'=>r=Ae (Ao Ar ((mq3 n N zs m Y:Nat):Int))/\NtQ w' B n (XQ 1 N) (jV (mq1 n N) zs.length) m (zF (mq2 n N zs) Y) (V a n c) (V l zs.length d) (V e m g) F1 F2 F3/\Trn w w' (fun x=>F1 x\/F2 x\/F3 x):=by
 obtain⟨A,HA⟩:=nmH w.1.size;obtain⟨w0,e0⟩:=nmH (w.alloc (J #[f,V a n c,V l zs.length d,V e m g] 48));have RA:=jZ e0 HA;have b0:=bl1 e0;have nA:∀ {d v} {F:Nat->Prop},Ow w B d v F->Ow w0 B d v (fun x=>F x/\x<A):=fun {d v F} ho=>by
  have:=ho.cut.mono (F':=fun x=>F x/\x<A) (fun x hx=>⟨hx.1,by rw[HA.out];exact hx.2.2⟩)
  exact this.below b0
 obtain⟨q1,c0⟩:=nnH (1+tot (fun i=>wkN (N i)) n);obtain⟨q2,d0⟩:=nnH (q1+zs.length);obtain⟨q3,a0⟩:=nnH (ofy q2 Y m);have E1:H (mq1 n N=q1):=c0.out;have E2:H (mq2 n N zs=q2):=by show _=_;unfold mq2;rw[E1.out,d0.out]
 have E3:H (mq3 n N zs m Y=q3):=by show _=_;unfold mq3;rw[E2.out,a0.out]
 rw[E1.out,E2.out,E3.out];have s0:q3<=400000000:=by rw[<-E3.out];exact hs.kq
 have t0:q2<=400000000:=by have:=jJ2 q2 Y m;rw[a0.out] at this;omega
 have r0:q1<=400000000:=by have:=d0.out;omega
 have KM:H (Ak prog 91 #[V a n c,Ao Ar ((1:Nat):Int)] w0 _):=jC7 B (V a n c) n N 1 (fun x=>F1 x/\x<A) w0 (nA h.n) hs.kn hs.kN (by rw[c0.out];exact r0);rw[c0.out] at KM;have KE:H (Ow w0 B (inD zs) (V l zs.length d) (fun x=>F2 x/\x<A)):=nA h.z;have KZ:H (OwK w0 B 31 10 m (fun i=>syD (Y i)) (V e m g) (fun x=>F3 x/\x<A)):=((h.y.cut.mono (F':=fun x=>F3 x/\x<A) (fun x hx=>⟨hx.1,by rw[HA.out];exact hx.2.2⟩)).below b0);have KD:H ((∀ g,F1 g->¬ F2 g)/\(∀ g,F1 g->¬ F3 g)/\∀ g,F2 g->¬ F3 g):=⟨h.d1,h.d2,h.d3⟩;have n0:H (Trn w w0 (fun x=>F1 x\/F2 x\/F3 x)):=Trn.ofBelow _ b0;have KS:H (NtW n N zs m Y):=hs;have KL:H (∀ x,F1 x\/F2 x\/F3 x->B<=x/\x<w.1.size):=h.f;clear h hs b0 nA;go_enter func32,ntmps32
 go_wp2_with fail
 rw[<-e0.out,<-HA.out];refine Ax KM.out ?_;rintro e' w1 ⟨rfl,O1,T1⟩;have R1:Row w1 A 48 #[f,V a n c,V l zs.length d,V e m g]:=(T1.block A RA.lt (fun h=>Fq _ h.2)).trans RA;have x2:=R1.cell 2;simp at x2;have f0:Ow w1 B (inD zs) (V l zs.length d) (fun x=>F2 x/\x<A):=KE.turned T1 (fun g h1 h2=>KD.1 g h2.1 h1.1);have q0:H (OwK w1 B 31 10 m (fun i=>syD (Y i)) (V e m g) (fun x=>F3 x/\x<A)):=KZ.turned T1 (fun g h1 h2=>KD.2.1 g h2.1 h1.1);have m0:H (Ow w1 B (qS n (XQ 1 N)) (V a n c) (fun x=>F1 x/\x<A)):=O1;have o0:H (Trn w w1 (fun x=>F1 x\/F2 x\/F3 x)):=n0.trans (T1.mono (fun g h=>.inl h.1));have g0:H (Row w1 A 48 #[f,V a n c,V l zs.length d,V e m g]):=R1;have k0:H _:=JG B (V l zs.length d) zs q1 q2 (fun x=>F2 x/\x<A) w1 f0 KS.kz (by omega) d0.out;clear T1 O1 f0 R1;go_wp2_with fail
 refine Ax k0.out ?_;rintro e' w2 ⟨rfl,O2,T2⟩;have R2:Row w2 A 48 #[f,V a n c,V l zs.length d,V e m g]:=(T2.block A g0.lt (fun h=>Fq _ h.2)).trans g0;have x3:=R2.cell 3;simp at x3;have i0:H (Ow w2 B (qS n (XQ 1 N)) (V a n c) (fun x=>F1 x/\x<A)/\Ow w2 B (inD (jV q1 zs.length)) (V l zs.length d) (fun x=>F2 x/\x<A)):=⟨m0.turned T2 (fun g h1 h2=>KD.1 g h1.1 h2.1),O2⟩;have Z2:OwK w2 B 31 10 m (fun i=>syD (Y i)) (V e m g) (fun x=>F3 x/\x<A):=q0.turned T2 (fun g h1 h2=>KD.2.2 g h2.1 h1.1);have p0:H (Trn w w2 (fun x=>F1 x\/F2 x\/F3 x)):=o0.trans (T2.mono (fun g h=>.inr (.inl h.1)));have h0:H _:=jJn B (V e m g) m Y q2 (fun x=>F3 x/\x<A) w2 Z2 KS.km KS.kY (by rw[a0.out];exact s0);rw[a0.out] at h0;clear T2 O2 Z2 R2 x2;go_wp2_with fail
 refine Ax h0.out ?_;rintro e' w3 ⟨rfl,O3,T3⟩;have KF:H (NtQ w3 B n (XQ 1 N) (jV q1 zs.length) m (zF q2 Y) (V a n c) (V l zs.length d) (V e m g) F1 F2 F3/\Trn w w3 (fun x=>F1 x\/F2 x\/F3 x)):=by
  have j0:=p0.trans (T3.mono (fun g h=>.inr (.inr h.1)));refine⟨⟨?_,?_,?_,KD.1,KD.2.1,KD.2.2,fun x hx=>⟨(KL x hx).1,Br (KL x hx).2 j0.size⟩⟩,j0⟩
  .exact(i0.1.turned T3 (fun g h1 h2=>KD.2.1 g h1.1 h2.1)).mono (fun g h=>h.1)
  .exact(i0.2.turned T3 (fun g h1 h2=>KD.2.2 g h1.1 h2.1)).mono (fun g h=>h.1)
  .exact O3.mono (fun g h=>h.1)
 clear T3 O3 x3;go_wp2
 go_ret
 exact⟨rfl,KF.1,KF.2⟩
theorem Rf.since {W W1:Ad} {E:Nat->Prop} {d:Dt} {v:Aj} (h:Rf W E d v) (hs:W.1.size<=W1.1.size) (ht:∀ b,¬ E b->b<W.1.size->W1.1[b]?=W.1[b]?):Rf W1 (fun b=>E b\/W.1.size<=b) d v:=
 fun W' h1 h2=>h W' (Bx hs h1) (fun b hb hl=>(h2 b (fun k=>k.elim hb (fun k=>by omega)) (Br hl hs)).trans (ht b hb hl))
theorem Rf.row {W:Ad} {E:Nat->Prop} {t:TypeId} {sz n:Nat} {f:Nat->Nat->Dt} {a:OA} {cap:Nat} (h:Rf W E (.lst t sz n f) (V a n cap)) {i:Nat} (hi:i<n) (hz:0<sz):∃ (b off:Nat) (y:Nat->Aj),a=M (Q b off I)/\¬ E b/\(∀ q,q<sz->W.cell? (Q b (off+(i*sz+q)) I)=M (y q))/\∀ q,q<sz->Rf W E (f i q) (y q):=by
 obtain⟨b,off,y,ea,hy,_⟩:=h.rd.row hi;have hE:¬ E b:=fun k=>by
  have h1:=h {W with heap:=W.1.setIfInBounds b (J #[] t)} (by simp) (fun x hx _=>by
   show (W.1.setIfInBounds b (J #[] t))[x]?=W.1[x]?;exact Eo (by intro e;subst e;exact hx k))
  obtain⟨b',b0,y',a0,c0,_⟩:=h1.row hi;rw[ea] at a0;obtain⟨rfl,rfl⟩:b=b'/\off=b0:=by simp at a0;exact⟨a0.1,a0.2⟩
  have h2:=c0 0 hz;have hl:=A7 (hy 0 hz);simp[World.cell?,hl] at h2
 refine⟨b,off,y,ea,hE,hy,fun q hq W' h1 h2=>?_⟩;obtain⟨b',b0,y',a0,c0,d0⟩:=(h W' h1 h2).row hi;rw[ea] at a0;obtain⟨rfl,rfl⟩:b=b'/\off=b0:=by simp at a0;exact⟨a0.1,a0.2⟩
 have e1:=c0 q hq;rw[zR (h2 b hE (A7 (hy q hq))),hy q hq] at e1;rw[En e1];exact d0 q hq
theorem jIq (sz:Nat) (c c2:Nat->Nat->Aj) (n m:Nat) (hz:0<sz):cL sz c n++cL sz c2 m=cL sz (fun i q=>if i<n then c i q else c2 (i-n) q) (n+m):=by
 apply Cn
 intro j;by_cases hj:j<(n+m)*sz
 .have hd:j / sz<n+m:=(C8 hz).2 hj;have hm:j % sz<sz:=E7 _ hz;have h2:=jT sz (fun i q=>if i<n then c i q else c2 (i-n) q) (n+m) (j / sz) (j % sz) hd hm;rw[vA] at h2;rw[h2];by_cases hn:j<n*sz
  .have a0:j / sz<n:=(C8 hz).2 hn;have h1:=jT sz c n (j / sz) (j % sz) a0 hm;rw[vA] at h1;rw[Ea (by rw[jY];exact hn),h1,A6 a0]
  .have a0:n<=j / sz:=(Nat.le_div_iff_mul_le hz).2 (by omega);have h1:=jT sz c2 m (j / sz-n) (j % sz) (by omega) hm;have e:(j / sz-n)*sz+j % sz=j-n*sz:=by
    have:=@vA sz j
    rw[Nat.sub_mul];have h3:=D7 sz a0;omega
   rw[e] at h1;rw[Ds (by rw[jY];omega),jY,h1,A5 (by omega)]
 .rw[Bb (by rw[Fd,jY,jY,<-Eu];omega),Bb (by rw[jY];omega)]
theorem jB8 {w:Ad} {y:Sy} {q:Nat} {v:Aj} (h:Rd w (syD y q) v):v.oneCell'=Aw:=by
 match q,h with
 | 0,h|1,h|2,h|3,h|4,h|5,h|6,h|7,h|8,h=>have e:v=_:=h;rw[e];rfl
 | q+9,h=>obtain⟨a,c,e,_⟩:=h;rw[e];rfl
theorem jAt {sz n:Nat} {c:Nat->Nat->Aj} {u:Aj} (hz:0<sz) (h:u∈cL sz c n):∃ i q,i<n/\q<sz/\u=c i q:=by
 obtain⟨j,hj,e⟩:=D0.1 h;have a0:j<n*sz:=by rw[jY] at hj;exact hj
 have h1:=jT sz c n (j / sz) (j % sz) ((C8 hz).2 a0) (E7 _ hz);rw[vA,Bj hj,e] at h1;exact⟨j / sz,j % sz,(C8 hz).2 a0,E7 _ hz,En h1⟩
def EX (gN gW:Nat) (X:Nat->Prop) (b:Nat):Prop:=b=gN\/b=gW\/X b
structure NtE (W:Ad) (B n:Nat) (N:Nat->Nd) (zs:List Int) (m:Nat) (Y:Nat->Sy) (gN cN:Nat) (v2:Aj) (gW cW:Nat) (X:Nat->Prop):Prop where
 o:∃ c,W.ownsRow B 26 3 (V gN n cN) n (cL 3 c n)/\∀ i q,i<n->q<3->Rf W (EX gN gW X) (ndD (N i) q) (c i q)
 z:Rf W (EX gN gW X) (inD zs) v2
 y:∃ c,W.ownsRow B 31 10 (V gW m cW) m (cL 10 c m)/\∀ i q,i<m->q<10->Rf W (EX gN gW X) (syD (Y i) q) (c i q)
 d:gN≠gW
theorem NtE.of {w:Ad} {B n:Nat} {N:Nat->Nd} {zs:List Int} {m:Nat} {Y:Nat->Sy} {g1 c1 g3 c3:Nat} {v2:Aj} {F1 F2 F3 X:Nat->Prop} (h:NtO w B n N zs m Y (V g1 n c1) v2 (V g3 m c3) F1 F2 F3) (hX:∀ x,F1 x\/F2 x\/F3 x->¬ X x):NtE w B n N zs m Y g1 c1 v2 g3 c3 X:=by
 obtain⟨a1,k1,c0,G1,e1,e0,a0,g0⟩:=h.n;obtain⟨a3,k3,d0,G3,e3,f0,b0,h0⟩:=h.y;cases e1;cases e3;have f1:=a0.head _ rfl;have f3:=b0.head _ rfl;refine⟨⟨c0,e0,fun i q hi hq=>Rf.of_ow (g0 i q hi hq) (fun x hx k=>?_)⟩,Rf.of_ow h.z (fun x hx k=>?_),⟨d0,f0,fun i q hi hq=>Rf.of_ow (h0 i q hi hq) (fun x hx k=>?_)⟩,fun e=>h.d2 g1 f1 (e▸f3)⟩
 .rcases k with k|k|k
  .exact a0.apart i q _ hi hq rfl (k▸hx)
  .exact h.d2 x (a0.sub i q x hi hq hx) (k▸f3)
  .exact hX x (.inl (a0.sub i q x hi hq hx)) k
 .rcases k with k|k|k
  .exact h.d1 x (k▸f1) hx
  .exact h.d3 x hx (k▸f3)
  .exact hX x (.inr (.inl hx)) k
 .rcases k with k|k|k
  .exact h.d2 x (k▸f1) (b0.sub i q x hi hq hx)
  .exact b0.apart i q _ hi hq rfl (k▸hx)
  .exact hX x (.inr (.inr (b0.sub i q x hi hq hx))) k
theorem NtE.grow {w w':Ad} {B n:Nat} {N:Nat->Nd} {zs:List Int} {m:Nat} {Y:Nat->Sy} {g1 c1 g3 c3:Nat} {v2:Aj} {X:Nat->Prop} (h:NtE w B n N zs m Y g1 c1 v2 g3 c3 X) (hb:Ab w w w'):NtE w' B n N zs m Y g1 c1 v2 g3 c3 (fun b=>X b\/(w.1.size<=b/\b<w'.1.size)):=by
 obtain⟨c,h1,h2⟩:=h.o;obtain⟨cy,h3,h4⟩:=h.y;have up:∀ {d:Dt} {v:Aj},Rf w (EX g1 g3 X) d v->Rf w' (EX g1 g3 (fun b=>X b\/(w.1.size<=b/\b<w'.1.size))) d v:=fun r=>(r.since hb.size (fun b _ hl=>hb.block b hl)).mono (fun b k=>by
  rcases k with k|k|k|k
  .exact .inl (.inl k)
  .exact .inl (.inr (.inl k))
  .exact .inl (.inr (.inr k))
  .exact .inr k.1)
 exact⟨⟨c,jF h1 hb,fun i q hi hq=>up (h2 i q hi hq)⟩,up h.z,⟨cy,jF h3 hb,fun i q hi hq=>up (h4 i q hi hq)⟩,h.d⟩
theorem NtE.less {w:Ad} {B n:Nat} {N:Nat->Nd} {zs:List Int} {m:Nat} {Y:Nat->Sy} {g1 c1 g3 c3:Nat} {v2:Aj} {X X':Nat->Prop} (h:NtE w B n N zs m Y g1 c1 v2 g3 c3 X) (hX:∀ b,X' b->X b):NtE w B n N zs m Y g1 c1 v2 g3 c3 X':=by
 obtain⟨c,h1,h2⟩:=h.o;obtain⟨cy,h3,h4⟩:=h.y;have up:∀ b,EX g1 g3 X' b->EX g1 g3 X b:=fun b k=>k.imp id (fun k=>k.imp id (hX b))
 exact⟨⟨c,h1,fun i q hi hq=>(h2 i q hi hq).mono up⟩,h.z.mono up,⟨cy,h3,fun i q hi hq=>(h4 i q hi hq).mono up⟩,h.d⟩
theorem NtE.turn {w w':Ad} {B n:Nat} {N:Nat->Nd} {zs:List Int} {m:Nat} {Y:Nat->Sy} {g1 c1 g3 c3:Nat} {v2:Aj} {X:Nat->Prop} (h:NtE w B n N zs m Y g1 c1 v2 g3 c3 X) (hs:w.1.size<=w'.1.size) (ht:∀ b,b<w.1.size->¬ X b\/b=g1\/b=g3->w'.1[b]?=w.1[b]?):NtE w' B n N zs m Y g1 c1 v2 g3 c3 X:=by
 obtain⟨c,h1,h2⟩:=h.o;obtain⟨cy,h3,h4⟩:=h.y;have up:∀ {d:Dt} {v:Aj},Rf w (EX g1 g3 X) d v->Rf w' (EX g1 g3 X) d v:=fun r=>r.turn hs (fun b hb hl=>ht b hl (.inl (fun k=>hb (.inr (.inr k)))))
 exact⟨⟨c,JJ h1 (fun x e _ hl=>by cases e;exact ht g1 hl (.inr (.inl rfl))),fun i q hi hq=>up (h2 i q hi hq)⟩,up h.z,⟨cy,JJ h3 (fun x e _ hl=>by cases e;exact ht g3 hl (.inr (.inr rfl))),fun i q hi hq=>up (h4 i q hi hq)⟩,h.d⟩
theorem NtE.base {w:Ad} {B B' n:Nat} {N:Nat->Nd} {zs:List Int} {m:Nat} {Y:Nat->Sy} {g1 c1 g3 c3:Nat} {v2:Aj} {X:Nat->Prop} (h:NtE w B n N zs m Y g1 c1 v2 g3 c3 X) (hB:B'<=B):NtE w B' n N zs m Y g1 c1 v2 g3 c3 X:=by
 obtain⟨c,h1,h2⟩:=h.o;obtain⟨cy,h3,h4⟩:=h.y;exact⟨⟨c,jX h1 hB,h2⟩,h.z,⟨cy,jX h3 hB,h4⟩,h.d⟩
theorem jOg {W:Ad} {B:Nat} {t:TypeId} {sz n g cap:Nat} {c:Nat->Nat->Aj} {f:Nat->Nat->Dt} (ho:W.ownsRow B t sz (V g n cap) n (cL sz c n)) (hr:∀ i q,i<n->q<sz->Rd W (f i q) (c i q)):Rd W (.lst t sz n f) (V g n cap):=
 ⟨_,_,rfl,fun i hi=>⟨g,0,rfl,fun q hq=>⟨c i q,by rw[Bq,Bt ho _ (qM hi hq)];exact jT _ _ _ _ _ hi hq,hr i q hi hq⟩⟩⟩
theorem NtE.rdN {w:Ad} {B n:Nat} {N:Nat->Nd} {zs:List Int} {m:Nat} {Y:Nat->Sy} {g1 c1 g3 c3:Nat} {v2:Aj} {X:Nat->Prop} (h:NtE w B n N zs m Y g1 c1 v2 g3 c3 X):Rd w (qS n N) (V g1 n c1):=by
 obtain⟨c,h1,h2⟩:=h.o;exact jOg h1 (fun i q hi hq=>(h2 i q hi hq).rd)
theorem NtE.rdY {w:Ad} {B n:Nat} {N:Nat->Nd} {zs:List Int} {m:Nat} {Y:Nat->Sy} {g1 c1 g3 c3:Nat} {v2:Aj} {X:Nat->Prop} (h:NtE w B n N zs m Y g1 c1 v2 g3 c3 X):Rd w (qJ m Y) (V g3 m c3):=by
 obtain⟨c,h1,h2⟩:=h.y;exact jOg h1 (fun i q hi hq=>(h2 i q hi hq).rd)
theorem NtE.lt {w:Ad} {B n:Nat} {N:Nat->Nd} {zs:List Int} {m:Nat} {Y:Nat->Sy} {g1 c1 g3 c3:Nat} {v2:Aj} {X:Nat->Prop} (h:NtE w B n N zs m Y g1 c1 v2 g3 c3 X):(B<=g1/\g1<w)/\B<=g3/\g3<w:=by
 obtain⟨_,h1,_⟩:=h.o;obtain⟨_,h2,_⟩:=h.y;exact⟨A0 h1 g1 rfl,A0 h2 g3 rfl⟩
theorem jMw {P:Program} (w:Ad) (t ty:TypeId) (base:Nat) (e:TypeId) (i:TypeInfo) (z:Aj) (size b0:Nat) (ht:P.underlying t=M (.slice e)) (hi:P.info? e=M i) (hz:i.zero=M z) (h0:i.size=size) (k0:i.bytes=b0) (o0:z.cells.size=size) (n0:0<size) (g0 n d0:Nat) (xs:List Aj) (i0:w.ownsRow base e size (V g0 n d0) n xs) (ad:Al) (m c:Nat) (a0:List Aj) (hl:a0.length=m*size) (f0:∀ j u,a0[j]?=M u->w.cell? (ad.add j)=M u) (h1:∀ u∈a0,u.oneCell'=Aw) (j0:n+m<=Au) (c0:(n+m)*b0<=140737488355328) (e0:base<=w):∃ g cap w',(Builtin.append_ #[t,t] ty #[V g0 n d0,V (M ad) m c]).run P w=.ok (V (Q g 0 I) (n+m) cap) w'/\w'.ownsRow base e size (V (Q g 0 I) (n+m) cap) (n+m) (xs++a0)/\w.grownBy w' (M g0)/\(g=g0\/g=w.1.size):=by
 obtain⟨v',w',hr,h2,h3,h4,h5⟩:=run_append_own_at (P:=P) w base t ty e i z size b0 ht hi hz h0 k0 o0 n0 _ n xs i0 ad m c a0 hl f0 h1 j0 c0 e0;have m0:v'≠V I 0 0:=fun e=>by have:=h4.1 e;cases this.1
 rcases h2.2 with ⟨e,_⟩|⟨g,cap,p0,e,_⟩
 .exact Bo e m0
 .subst e;refine⟨g,cap,w',hr,h2,h3,?_⟩;rcases h5 with h5|h5
  .exact .inl (by injection h5)
  .exact .inr (by injection h5)
theorem QE {o:Oper} {a:Act} {w:Ad} {K:Act->Ad->Prop} {Q:Exit->Act->Ad->Prop} (s x:Nat)
  (ho:o.op=.call {callee:=.builtin .append,args:=#[.tmp s,.tmp x],argTypes:=#[34,34]})
  (base g0 n a0:Nat) (xs:List Aj) (hs:a.eval (.tmp s)=V g0 n a0) (c0:w.ownsRow base 31 10 (V g0 n a0) n xs)
  (ad:OA) (m c:Nat) (b0:List Aj) (hx:a.eval (.tmp x)=V ad m c) (h0:ad=I->m=0) (hl:b0.length=m*10) (e0:∀ b,ad=M b->∀ j u,b0[j]?=M u->w.cell? (b.add j)=M u) (h1:∀ u∈b0,u.oneCell'=Aw)
  (q0:n+m<=1000000) (d0:base<=w)
  (h:∀ g cap w',w'.ownsRow base 31 10 (V (Addr.mk g 0 I) (n+m) cap) (n+m) (xs++b0)->w.grownBy w' (M g0)->(g=g0\/g=w.1.size)->K (a.put o.dst (V (Addr.mk g 0 I) (n+m) cap)) w'):o.wp prog a w K Q:=by
 obtain⟨iY,k0,f0,i0,j0⟩:=Ch Tryz.infoSyZ;cases ad with
 | some b=>
  obtain⟨g,cap,w',hr,h2,h3,h4⟩:=jMw (P:=prog) w 34 o.type base 31 iY _ 10 120 Dm k0 f0 i0 j0 rfl (by omega) g0 n a0 xs c0 b m c b0 hl (e0 b rfl) h1 (by unfold Au;omega) (by omega) d0;unfold Oper.wp execOp;simp only[ho,resolve,invoke,builtin,Fb,Gk,Dy,List.map_toArray,Gz,Ha,hs,hx,hr];exact h g cap w' h2 h3 h4
 | none=>
  have em:=h0 rfl;subst em;have en:=List.eq_nil_of_length_eq_zero (by omega);subst en;have m0:n<=a0:=by
   rcases c0.2 with ⟨e,_⟩|⟨g,cap,o0,e,_,_,hc,_⟩
   .cases e
   .cases e;exact hc
  have hk:=h g0 a0 w (by rw[List.append_nil];exact c0) ⟨rfl,rfl,rfl,Ay _,fun _ _ _=>rfl⟩ (.inl rfl);obtain⟨p0,op,ty,t0,n0,gd⟩:=o;simp only at ho;subst ho;have r0:a.tmps[s]?.getD O=V g0 n a0:=by simpa [Act.eval] using hs
  have s0:a.tmps[x]?.getD O=V I 0 c:=by simpa [Act.eval] using hx
  go_simp
  exact hk
theorem jAp {i0:Array Oper} {c0:List Oper} {o:Oper} {a:Act} {w:Ad} {Q:Exit->Act->Ad->Prop} (j0:o.guard=I) (s x:Nat)
  (ho:o.op=.call {callee:=.builtin .append,args:=#[.tmp s,.tmp x],argTypes:=#[34,34]})
  (base g0 n b0:Nat) (xs:List Aj) (hs:a.eval (.tmp s)=V g0 n b0) (f0:w.ownsRow base 31 10 (V g0 n b0) n xs)
  (ad:OA) (m c:Nat) (a0:List Aj) (hx:a.eval (.tmp x)=V ad m c) (h0:ad=I->m=0) (hl:a0.length=m*10) (e0:∀ b,ad=M b->∀ j u,a0[j]?=M u->w.cell? (b.add j)=M u) (h1:∀ u∈a0,u.oneCell'=Aw)
  (k0:n+m<=1000000) (d0:base<=w)
  (h:∀ g cap w',w'.ownsRow base 31 10 (V (Addr.mk g 0 I) (n+m) cap) (n+m) (xs++a0)->w.grownBy w' (M g0)->(g=g0\/g=w.1.size)->wpList prog i0 Q c0 (a.put o.dst (V (Addr.mk g 0 I) (n+m) cap)) w'):wpList prog i0 Q (o::c0) a w:=
 Gw j0 fun _ hK=>QE s x ho base g0 n b0 xs hs f0 ad m c a0 hx h0 hl e0 h1 k0 d0 fun g cap w' h2 h3 h4=>hK _ _ (h g cap w' h2 h3 h4)
theorem jJy {W:Ad} {E:Nat->Prop} {m cap:Nat} {Y:Nat->Sy} {a:OA} (h:Rf W E (qJ m Y) (V a m cap)):∃ c:Nat->Nat->Aj,(a=I->m=0)/\(∀ b,a=M b->∀ j u,(cL 10 c m)[j]?=M u->W.cell? (b.add j)=M u)/\(∀ b,a=M b->0<m->¬ E b.block)/\∀ i q,i<m->q<10->Rf W E (syD (Y i) q) (c i q):=by
 have h1:∀ i,∃ y:Nat->Aj,i<m->∃ b off,a=M (Q b off I)/\¬ E b/\(∀ q,q<10->W.cell? (Q b (off+(i*10+q)) I)=M (y q))/\∀ q,q<10->Rf W E (syD (Y i) q) (y q):=fun i=>by
  by_cases hi:i<m
  .obtain⟨b,off,y,h2⟩:=Rf.row h hi (by omega);exact⟨y,fun _=>⟨b,off,h2⟩⟩
  .exact⟨fun _=>O,fun k=>Bo k hi⟩
 obtain⟨c,hc⟩:=Ex h1;refine⟨c,fun e=>?_,fun b e j u hu=>?_,fun b e hm k=>?_,fun i q hi hq=>?_⟩
 .rcases Fz m with k|k
  .exact k
  .obtain⟨b,off,e2,_⟩:=hc 0 k;rw[e] at e2;cases e2
 .have hj:j<m*10:=by have:=(Bz.1 hu).1;rw[jY] at this;exact this
  obtain⟨b',off,e2,_,h3,_⟩:=hc (j / 10) (by omega);rw[e] at e2;cases e2;have h4:=jT 10 c m (j / 10) (j % 10) (by omega) (by omega);rw[vA] at h4;rw[h4] at hu;have h5:=h3 (j % 10) (by omega);rw[vA] at h5;rw[Addr.add_mid,h5];exact hu
 .obtain⟨b',off,e2,h3,_⟩:=hc 0 hm;rw[e] at e2;cases e2;exact h3 k
 .obtain⟨_,_,_,_,_,h3⟩:=hc i hi;exact h3 q hq
theorem jGw {o:Oper} {a:Act} {w:World} {K:Act->World->Prop} {Q:Exit->Act->World->Prop} (x lo:Nat) (ho:o.op=.slice 34 (.tmp x) (some (.tmp lo)) none none) (g n cap k:Nat) (hx:a.eval (.tmp x)=.slice g n cap) (b0:a.eval (.tmp lo)=.int .i64 (k:Int)) (hk:k<=n) (hn:n<=cap) (h:∀ off,(n=k\/off=k*10)->K (a.put o.dst (.slice (Addr.mk g off none) (n-k) (cap-k))) w):o.wp prog a w K Q:=by
 obtain⟨f0,op,ty,i0,e0,gd⟩:=o;simp only at ho;subst ho;have h0:a.tmps[x]?.getD undef=.slice g n cap:=by simpa [Act.eval] using hx
 have d0:a.tmps[lo]?.getD undef=.int .i64 (k:Int):=by simpa [Act.eval] using b0
 have g0:(k:Int)<=(n:Int):=by omega
 by_cases hc:cap=k
 .have a0:=h 0 (.inl (by omega));rw[show cap-k=0 by omega,show n-k=0 by omega] at a0;have c0:n=k:=by omega
  subst hc;subst c0;go_simp
  exact a0
 .have a0:=h (k*10) (.inr rfl);go_simp
  exact a0
theorem jOu {o:Oper} {a:Act} {w:World} {K:Act->World->Prop} {Q:Exit->Act->World->Prop} (x hi:Nat) (ho:o.op=.slice 34 (.tmp x) none (some (.tmp hi)) none) (g n cap k:Nat) (hx:a.eval (.tmp x)=.slice g n cap) (a0:a.eval (.tmp hi)=.int .i64 (k:Int)) (hk:k<=cap) (h:K (a.put o.dst (.slice g k cap)) w):o.wp prog a w K Q:=by
 obtain⟨d0,op,ty,g0,c0,gd⟩:=o;simp only at ho;subst ho;have f0:a.tmps[x]?.getD undef=.slice g n cap:=by simpa [Act.eval] using hx
 have b0:a.tmps[hi]?.getD undef=.int .i64 (k:Int):=by simpa [Act.eval] using a0
 have e0:(k:Int)<=(cap:Int):=by omega
 go_simp
 exact h
end Go.Proofs.YtcaejlalnjnifaaGreat
