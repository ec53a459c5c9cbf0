import Derived.Test.YtcaejlalnjnifaaGreatR4
import Derived.Test.YtcaejlalnjnifaaGreatR5
set_option maxHeartbeats 8000000
set_option maxRecDepth 2000
open Option renaming none->I
open Go.RowKit renaming Hid->H,Below->Ab
open Go.Addr renaming mk->Q
open Go.Obj renaming cells->J
open Go renaming World->Ad,Value->Aj
open Go.Value renaming string->Ag,int->Ao
open Go.IntKind renaming i64->Ar
open Go.Proofs.Tryz
open Go.ChangeShapes Go.WideShapes Go.ChangeAt Go.RowKit
namespace Go.Proofs.YtcaejlalnjnifaaGreat
open Gs (U rolI V4 mx inn key all4 fin)
theorem jGb (s:BA) (w:Ad) (hs:s.size<=8):CS 196 #[s] w (Ao .u64 ((Gs.le (tat s) 0 s.size:Nat):Int)):=by
 obtain⟨n,hn⟩:∃ n,s.size=n:=⟨_,rfl⟩;go_enter func196,ntmps196
 go_wp2
 go_loop [3,4] (fun x i=>∃ j:Nat,j<=n/\i=Ao Ar ((n:Int)-1-j)/\x=Ao .u64 ((Gs.le (tat s) (n-j) j:Nat):Int)) (fun _ i=>(intOf i+1).toNat)
 case atStart=>exact⟨0,Bi _,by simp,rfl⟩
 case round=>
  obtain⟨j,hj,rfl,rfl⟩:=hrel;by_cases hlt:j<n
  .obtain⟨o,HO⟩:∃ o:Nat,H (n=o+j+1):=⟨n-j-1,by show _=_;omega⟩;have eo:(n:Int)-1-(j:Int)=(o:Int):=by have:=HO.out;omega
   have c0:o<s.size:=by have:=HO.out;omega
   have HX:=hd ((XZ s o c0).symm);have a0:=Gs.le_lt64 (JB s) o (j+1) (by omega);have HF:H (Gs.le (tat s) o (j+1)=Gs.le (tat s) (o+1) j*256+s[o].toNat):=by show _=_;rw[HX.out,Gs.le_first]
   rw[show n-j=o+1 by have:=HO.out;omega,eo];rw[HF.out] at a0;generalize Gs.le (tat s) (o+1) j=X at a0 HF |-;have b0:n-(j+1)=o:=by have:=HO.out;omega
   have HN:=hd b0;go_wp2
   refine⟨⟨j+1,by omega,?_,?_⟩,?_⟩
   .have:=HO.out
    congr 1
    omega
   .rw[HN.out,HF.out];simp
   .simp[intOf]
  .obtain rfl:j=n:=by omega
   go_wp2
   go_ret
   exact⟨rfl,rfl⟩
theorem jOb (v:V4) (x:BitVec 64) (w:Ad):CB 195 #[A4 v,Ao .u64 (U x)] w (A4 (inn v x)):=by
 obtain⟨a,b,c,d⟩:=v;have i0:=Gs.U_xor;obtain⟨B,HB⟩:=nmH w.1.size;obtain⟨w1,d0⟩:=nmH ((w.alloc (J (C4 ⟨a,b,c,d ^^^ x⟩) 231)).alloc (J #[Ao .u64 0,Ao .u64 0,Ao .u64 0,Ao .u64 0] 231));have K1:H (QI w w1 B ⟨a,b,c,d ^^^ x⟩):=by
  show QI _ _ _ _;rw[d0.out,HB.out];refine⟨(Row.new w _ _).alloc _,⟨⟨0,0,0,0⟩,?_⟩,((Az _ _).alloc (Ay _) _).alloc (by simp) _⟩;have:=Row.new (w.alloc (J (C4 ⟨a,b,c,d ^^^ x⟩) 231)) #[Ao .u64 0,Ao .u64 0,Ao .u64 0,Ao .u64 0] 231
  rw[show (w.alloc (J (C4 ⟨a,b,c,d ^^^ x⟩) 231)).1.size=w.1.size+1 by simp] at this;exact this
 have j0:w1.1.size=B+2:=by rw[d0.out,HB.out];simp
 have R1:H _:=K1.out.row;go_enter func195,ntmps195
 go_wp2_with (rw[<-d0.out,<-HB.out];refine Bb rfl 231 _ rfl B rfl 231 _ (0,0) _ R1.out Fe rfl Tryz.info4 ?_)
 refine(JO _ _).mono ?_;rintro e w2 ⟨rfl,e0⟩;go_wp2_with fail
 refine(JO _ _).mono ?_;rintro e w3 ⟨rfl,h0⟩;have HI:H (inn ⟨a,b,c,d⟩ x=⟨(mx (mx ⟨a,b,c,d ^^^ x⟩)).a ^^^ x,(mx (mx ⟨a,b,c,d ^^^ x⟩)).b,(mx (mx ⟨a,b,c,d ^^^ x⟩)).c,(mx (mx ⟨a,b,c,d ^^^ x⟩)).d⟩):=rfl;generalize mx (mx ⟨a,b,c,d ^^^ x⟩)=m at HI |-;obtain⟨p,q,s,t⟩:=m;have a0:Ab w1 w1 w3:=jA e0 h0;obtain⟨z,hz⟩:=K1.out.res;have R3:H (Row w3 B 231 (C4 ⟨a,b,c,d ^^^ x⟩)):=Row.below R1.out a0 (by omega);have Z3:H (Row w3 (B+1) 231 (C4 z)):=hz.below a0 (by omega);have B3:H (Ab B w w3):=K1.out.bel.trans (a0.mono (by omega));clear hz a0 e0 h0;obtain⟨c0,c1,c2,c3⟩:=R3.out.c4 0 1 2 3;have f0:=R3.out.free 0;have f1:=R3.out.free 1;have f2:=R3.out.free 2;have f3:=R3.out.free 3;simp at c0 c1 c2 c3;obtain⟨w4,b0⟩:=nmH (((((w3.setCell B (Ao .u64 (U p))).setCell (Q B 1 I) (Ao .u64 (U q))).setCell (Q B 2 I) (Ao .u64 (U s))).setCell (Q B 3 I) (Ao .u64 (U t))).setCell (Q B 0 I) (Ao .u64 (U (p ^^^ x))));have R4:H (Row w4 B 231 (C4 ⟨p ^^^ x,q,s,t⟩)):=by
  show Row _ _ _ _;rw[b0.out];exact((((R3.out.set 0 _).set 1 _).set 2 _).set 3 _).set 0 _
 have Z4:H (Row w4 (B+1) 231 (C4 z)):=by
  show Row _ _ _ _;rw[b0.out];exact((((Z3.out.other 0 _ (by omega)).other 1 _ (by omega)).other 2 _ (by omega)).other 3 _ (by omega)).other 0 _ (by omega)
 have B4:H (Ab B w w4):=by
  show Ab _ _ _;rw[b0.out];exact Bn (Bn (Bn (Bn (Bn B3.out (by simp) _) (by simp) _) (by simp) _) (by simp) _) (by simp) _
 have ZR:H (Row ((((w4.setCell (Q (B+1) 0 I) (Ao .u64 (U (p ^^^ x)))).setCell (Q (B+1) 1 I) (Ao .u64 (U q))).setCell (Q (B+1) 2 I) (Ao .u64 (U s))).setCell (Q (B+1) 3 I) (Ao .u64 (U t))) (B+1) 231 (C4 (inn ⟨a,b,c,d⟩ x))):=by
  show Row _ _ _ _;rw[HI.out];exact(((Z4.out.set 0 _).set 1 _).set 2 _).set 3 _
 obtain⟨q0,q1,q2,q3⟩:=Z4.out.c4 0 1 2 3;have g0:=Z4.out.free 0;have g1:=Z4.out.free 1;have g2:=Z4.out.free 2;have g3:=Z4.out.free 3;simp at q0 q1 q2 q3;go_wp2_with (rw[<-b0.out];refine Bb rfl 231 _ rfl B rfl 231 _ (0,0) _ R4.out Fe rfl Tryz.info4 ?_;clear c0 c1 c2 c3 f0 f1 f2 f3)
 clear q0 q1 q2 q3 g0 g1 g2 g3;refine B7 (v:=A4 (inn ⟨a,b,c,d⟩ x)) (Ck results195 _ _ (B+1) 231 _ (0,0) _ (by simp) ZR.out Fe rfl Tryz.info4) rfl ⟨rfl,?_⟩;rw[<-HB.out];exact Bn (Bn (Bn (Bn B4.out (by simp) _) (by simp) _) (by simp) _) (by simp) _
theorem jLs (u:BA) (a b j:Nat) (hb:b<=u.size) (hj:a+j<b):tat (u.extract a b) j=tat u (a+j):=by
 have hs:(u.extract a b).size=b-a:=by simp[ByteArray.size_extract];omega
 rw[XZ _ j (by omega),XZ _ (a+j) (by omega)];congr 1
 simp[ByteArray.getElem_extract]
def jO4:Aj->Nat
 | .string s=>s.size
 | _=>0
theorem jDy (a b:BitVec 64) (s:BA) (w:Ad) (hs:s.size<=4194304):CB 178 #[Ao .u64 (U a),Ao .u64 (U b),s] w (Ao .u64 (U (Gs.sip (tat s) a b s.size))):=by
 obtain⟨n,hn⟩:∃ n,s.size=n:=⟨_,rfl⟩;have e1:=Gs.U_xor;have a1:∀ x:BitVec 64,bits .xor .u64 (U x) 255=U (x ^^^ 255#64):=fun x=>Gs.U_xor x 255#64
 have h1:bits .xor .u64 (U a) 8317987319222330741=U (a ^^^ 8317987319222330741#64):=Gs.U_xor a 8317987319222330741#64;have h2:bits .xor .u64 (U b) 7237128888997146477=U (b ^^^ 7237128888997146477#64):=Gs.U_xor b 7237128888997146477#64;have h3:bits .xor .u64 (U a) 7816392313619706465=U (a ^^^ 7816392313619706465#64):=Gs.U_xor a 7816392313619706465#64;have h4:bits .xor .u64 (U b) 8387220255154660723=U (b ^^^ 8387220255154660723#64):=Gs.U_xor b 8387220255154660723#64;obtain⟨g,HG⟩:=nmH w.1.size;obtain⟨w1,h0⟩:=nmH (w.alloc (J #[Ao .u64 (U (a ^^^ 8317987319222330741#64)),Ao .u64 (U (b ^^^ 7237128888997146477#64)),Ao .u64 (U (a ^^^ 7816392313619706465#64)),Ao .u64 (U (b ^^^ 8387220255154660723#64))] 231));have r1:=(jZ h0 HG).out;have b1:Ab g w w1:=by rw[h0.out,HG.out];exact(Az _ _).alloc (Ay _) _
 have g1:IntKind.u64.wrap ((n:Int) % 256)=((n % 256:Nat):Int):=by rw[Fq];omega
 go_enter func178,ntmps178
 go_wp2
 rw[<-h0.out,<-HG.out];clear h1 h2 h3 h4;go_loopw [2] (fun sv wr=>∃ (q:Nat) (u:BA),sv=Ag u/\u.size+8*q=n/\(∀ j,j<u.size->tat u j=tat s (8*q+j))/\Row wr g 231 (C4 (Gs.blk (tat s) (key a b) q))/\Ab g w wr) (fun sv _=>jO4 sv)
 case atStart=>exact⟨0,s,rfl,by omega,fun j _=>by rw[Nat.mul_zero,Bt],r1,b1⟩
 case round=>
  obtain⟨q,u,rfl,hu,hT,e0,hb⟩:=hrel;clear r1 b1;obtain⟨p0,p1,p2,p3,HV⟩:∃ a' b' c' d',H (Gs.blk (tat s) (key a b) q=⟨a',b',c',d'⟩):=⟨_,_,_,_,rfl⟩;rw[HV.out] at e0;have KT:H (∀ j,j<u.size->tat u j=tat s (8*q+j)):=hT;have K:H (Row wr g 231 (C4 ⟨p0,p1,p2,p3⟩)):=e0;clear hT e0;obtain⟨c0,c1,c2,c3⟩:=K.out.c4 0 1 2 3;simp at c0 c1 c2 c3;by_cases h8:8<=u.size
  .have z0:(8:Int)<=(u.size:Int):=by omega
   have y0:(u.extract 0 8).size=8:=by simp[ByteArray.size_extract];omega
   have HL:H (Gs.le (tat (u.extract 0 8)) 0 (u.extract 0 8).size=Gs.le (tat s) (8*q) 8):=by
    show _=_;rw[y0];refine Gs.le_congr 8 (fun j hj=>?_);rw[Bt,jLs u 0 8 j h8 (by omega),Bt,KT.out j (by omega)]
   have KL:H _:=fun w0=>jGb (u.extract 0 8) w0 (by omega)
   rw[HL.out] at KL;clear y0;go_wp2_with fail
   go_still_tail 4,Tryz.mixed
   still_call (KL.out _)
   refine Gr ?_;rw[qP];obtain⟨w2,a0⟩:=nmH wr.drew;rw[<-a0.out];have K2:H (Row w2 g 231 (C4 ⟨p0,p1,p2,p3⟩)):=by show Row _ _ _ _;rw[a0.out];exact K.out.drew
   have B2:H (Ab g w w2):=by show Ab _ _ _;rw[a0.out];exact hb.drew
   clear c0 c1 c2 c3;have KU:H _:=Gs.U_nat (Gs.le_lt64 (JB s) (8*q) 8 (by omega));go_wp2_with fail
   rw[KU.out];refine(jOb ⟨p0,p1,p2,p3⟩ _ _).mono ?_;rintro e w3 ⟨rfl,b0⟩;have HS:H (Gs.blk (tat s) (key a b) (q+1)=inn ⟨p0,p1,p2,p3⟩ (BitVec.ofNat 64 (Gs.le (tat s) (8*q) 8))):=by show _=_;rw[Gs.blk,HV.out]
   generalize inn ⟨p0,p1,p2,p3⟩ (BitVec.ofNat 64 (Gs.le (tat s) (8*q) 8))=m at HS |-;obtain⟨m0,m1,m2,m3⟩:=m;have n0:=K2.out.lt;have K3:H (Row w3 g 231 (C4 ⟨p0,p1,p2,p3⟩)):=K2.out.below b0 n0;have B3:H (Ab g w w3):=B2.out.trans (b0.mono (by omega));obtain⟨c0,c1,c2,c3⟩:=K3.out.c4 0 1 2 3;have f0:=K3.out.free 0;have f1:=K3.out.free 1;have f2:=K3.out.free 2;have f3:=K3.out.free 3;simp at c0 c1 c2 c3;have KN:H (Row ((((w3.setCell g (Ao .u64 (U m0))).setCell (Q g 1 I) (Ao .u64 (U m1))).setCell (Q g 2 I) (Ao .u64 (U m2))).setCell (Q g 3 I) (Ao .u64 (U m3))) g 231 (C4 (Gs.blk (tat s) (key a b) (q+1)))):=by
    show Row _ _ _ _;rw[HS.out];exact(((K3.out.set 0 _).set 1 _).set 2 _).set 3 _
   have BN:H (Ab g w ((((w3.setCell g (Ao .u64 (U m0))).setCell (Q g 1 I) (Ao .u64 (U m1))).setCell (Q g 2 I) (Ao .u64 (U m2))).setCell (Q g 3 I) (Ao .u64 (U m3)))):=Bn (Bn (Bn (Bn B3.out (by simp) _) (by simp) _) (by simp) _) (by simp) _;have hz:(u.extract 8 u.size).size=u.size-8:=by simp[ByteArray.size_extract]
   have HZ:H ((u.extract 8 u.size).size=u.size-8):=hz;have HT:H (∀ j,j<(u.extract 8 u.size).size->tat (u.extract 8 u.size) j=tat s (8*(q+1)+j)):=by
    intro j hj;rw[hz] at hj;rw[jLs u 8 u.size j (Ay _) (by omega),KT.out (8+j) (by omega)];congr 1
    omega
   clear hz;go_wp2
   go_roundw
   case rel=>exact⟨q+1,_,rfl,by have:=HZ.out;omega,HT.out,KN.out,BN.out⟩
   case measure=>have:=HZ.out;simp only[jO4];omega
  .have z0:¬ (8:Int)<=(u.size:Int):=by omega
   have j0:n / 8=q:=by omega
   have o0:n % 8=u.size:=by omega
   have HL:H (Gs.le (tat u) 0 u.size=Gs.le (tat s) (8*(n / 8)) (n % 8)):=by
    show _=_;rw[j0,o0];refine Gs.le_congr u.size (fun j hj=>?_);rw[Bt,KT.out j hj]
   have KL:H _:=fun w0=>jGb u w0 (by omega)
   rw[HL.out] at KL;have q0:=Gs.le_lt64 (JB s) (8*(n / 8)) (n % 8) (by omega);have x0:bits .or .u64 ((Gs.le (tat s) (8*(n / 8)) (n % 8):Nat):Int) (IntKind.u64.wrap ((n:Int) % 256*72057594037927936))=U (Gs.lst (tat s) n):=by
    rw[show (n:Int) % 256=((n % 256:Nat):Int) by omega,Gs.U_nat (n:=n % 256) (by omega),show (72057594037927936:Int)=2 ^ 56 by decide,Gs.U_shl,Gs.U_nat q0,Gs.U_or];rfl
   have g0:H (Gs.sip (tat s) a b s.size=all4 (fin (inn ⟨p0,p1,p2,p3⟩ (Gs.lst (tat s) n)))):=by
    show _=_;rw[<-HV.out,hn,<-j0];rfl
   clear q0 j0 o0;generalize Gs.le (tat s) (8*(n / 8)) (n % 8)=X at KL x0;generalize Gs.lst (tat s) n=Y at x0 g0;go_wp2_with fail
   go_still_tail 6,Tryz.mixed
   still_call (KL.out _)
   repeat still_step
   refine Gr ?_;rw[qP];obtain⟨w2,a0⟩:=nmH wr.drew;rw[<-a0.out];have K2:H (Row w2 g 231 (C4 ⟨p0,p1,p2,p3⟩)):=by show Row _ _ _ _;rw[a0.out];exact K.out.drew
   have B2:H (Ab g w w2):=by show Ab _ _ _;rw[a0.out];exact hb.drew
   clear c0 c1 c2 c3;go_wp2_with fail
   refine(jOb ⟨p0,p1,p2,p3⟩ Y _).mono ?_;rintro e w3 ⟨rfl,b0⟩;generalize inn ⟨p0,p1,p2,p3⟩ Y=m at g0 |-;obtain⟨m0,m1,m2,m3⟩:=m;have n0:=K2.out.lt;have K3:H (Row w3 g 231 (C4 ⟨p0,p1,p2,p3⟩)):=K2.out.below b0 n0;have B3:H (Ab g w w3):=B2.out.trans (b0.mono (by omega));obtain⟨c0,c1,c2,c3⟩:=K3.out.c4 0 1 2 3;have f0:=K3.out.free 0;have f1:=K3.out.free 1;have f2:=K3.out.free 2;have f3:=K3.out.free 3;simp at c0 c1 c2 c3;obtain⟨w4,i0⟩:=nmH (((((w3.setCell g (Ao .u64 (U m0))).setCell (Q g 1 I) (Ao .u64 (U m1))).setCell (Q g 2 I) (Ao .u64 (U m2))).setCell (Q g 3 I) (Ao .u64 (U m3))).setCell (Q g 2 I) (Ao .u64 (U (m2 ^^^ 255#64))));have K4:H (Row w4 g 231 (C4 ⟨m0,m1,m2 ^^^ 255#64,m3⟩)):=by
    show Row _ _ _ _;rw[i0.out];exact((((K3.out.set 0 _).set 1 _).set 2 _).set 3 _).set 2 _
   have B4:H (Ab g w w4):=by
    show Ab _ _ _;rw[i0.out];exact Bn (Bn (Bn (Bn (Bn B3.out (by simp) _) (by simp) _) (by simp) _) (by simp) _) (by simp) _
   go_wp2_with (rw[<-i0.out];refine Bb rfl 231 _ rfl g rfl 231 _ (0,0) _ K4.out Fe rfl Tryz.info4 ?_;clear c0 c1 c2 c3 f0 f1 f2 f3)
   refine(JO _ _).mono ?_;rintro e w5 ⟨rfl,r0⟩;go_wp2_with fail
   refine(JO _ _).mono ?_;rintro e w6 ⟨rfl,s0⟩;go_wp2_with fail
   refine(JO _ _).mono ?_;rintro e w7 ⟨rfl,t0⟩;go_wp2_with fail
   refine(JO _ _).mono ?_;rintro e w8 ⟨rfl,u0⟩;have d0:Ab w4 w4 w8:=jA (jA r0 s0) (jA t0 u0);have v0:=K4.out.lt;have K8:H (Row w8 g 231 (C4 ⟨m0,m1,m2 ^^^ 255#64,m3⟩)):=K4.out.below d0 v0;have B8:H (Ab g w w8):=B4.out.trans (d0.mono (by omega));clear r0 s0 t0 u0 d0 b0;have HF:H (Gs.sip (tat s) a b s.size=all4 (mx (mx (mx (mx ⟨m0,m1,m2 ^^^ 255#64,m3⟩))))):=g0.out;generalize mx (mx (mx (mx ⟨m0,m1,m2 ^^^ 255#64,m3⟩)))=f at HF |-;obtain⟨k0,k1,k2,k3⟩:=f;obtain⟨c0,c1,c2,c3⟩:=K8.out.c4 0 1 2 3;have f0:=K8.out.free 0;have f1:=K8.out.free 1;have f2:=K8.out.free 2;have f3:=K8.out.free 3;simp at c0 c1 c2 c3;go_wp2
   go_ret
   refine⟨?_,?_⟩
   .rw[<-hn,HF.out];rfl
   .rw[<-HG.out];exact Bn (Bn (Bn (Bn B8.out (by simp) _) (by simp) _) (by simp) _) (by simp) _
end Go.Proofs.YtcaejlalnjnifaaGreat
