import Derived.Test.YtcaejlalnjnifaaGreatP7
import Derived.Test.YtcaejlalnjnifaaGreatP8
set_option maxHeartbeats 8000000
set_option maxRecDepth 2000
open Option renaming none->I
open Go.RowKit renaming Hid->H,Below->Ab
open Go.Addr renaming mk->Q
open Go.Obj renaming cells->J
open Go renaming World->Ad,Calls->Ak
open Go.Ending renaming returned->Ae
open Go.Value renaming pointer->Af,int->Ao
open Go.IntKind renaming i64->Ar
open Bool renaming false->Av,true->Aw
open Go.Proofs.Tryz
open Go.ChangeShapes Go.WideShapes Go.ChangeAt Go.RowKit
namespace Go.Proofs.YtcaejlalnjnifaaGreat
open Gs (U rolI V4 mx inn key all4 fin)
theorem jO7 (g L n:Nat) (v:V4) (w:Ad) (h:Row w g 269 (H6 L n v)) (hn:n<=4194304) (hL:L<18446744073709551616):Ak prog 247 #[Af g] w fun e w'=>e=Ae (Ao .u64 (U (all4 (fin (inn v (BitVec.ofNat 64 L ||| (BitVec.ofNat 64 n <<< 56)))))))/\Ab g w w':=by
 have g0:=Gs.U_xor;have f0:∀ x:BitVec 64,bits .xor .u64 (U x) 255=U (x ^^^ 255#64):=fun x=>Gs.U_xor x 255#64
 have K0:H (Row w g 269 (H6 L n v)):=h;clear h;go_enter func247,ntmps247
 go_wp2_with fail
 refine Ax (jMa g L n v w K0 hn hL) ?_;rintro e w1 ⟨rfl,h1,c0⟩;have K1:H (Row w1 g 269 (H6 L n v)):=h1;clear h1;go_wp2_with fail
 refine Ax (jIk g L n v _ w1 K1) ?_;rintro e w2 ⟨rfl,h2,d0⟩;obtain⟨a,b,c,d,HU⟩:∃ a b c d,H (inn v (BitVec.ofNat 64 L ||| (BitVec.ofNat 64 n <<< 56))=⟨a,b,c,d⟩):=⟨_,_,_,_,rfl⟩;rw[HU.out] at h2;have K2:H (Row w2 g 269 (H6 L n ⟨a,b,c,d⟩)):=h2;have B2:H (Ab g w w2):=c0.trans d0;clear h2 c0 d0;have c4:=K2.cell 4;have f4:=K2.free 4;simp at c4;go_wp2_with fail
 go_still_tail 9,Tryz.mixed
 rw[qO];obtain⟨w3,a0⟩:=nmH w2.drew;rw[<-a0.out];have K3:H (Row w3 g 269 (H6 L n ⟨a,b,c,d⟩)):=by show Row _ _ _ _;rw[a0.out];exact K2.drew
 have B3:H (Ab g w w3):=by show Ab _ _ _;rw[a0.out];exact B2.drew
 clear c4 f4;have c4:=K3.cell 4;have f4:=K3.free 4;simp at c4;obtain⟨w4,b0⟩:=nmH (w3.setCell (Q g 4 I) (Ao .u64 (U (c ^^^ 255#64))));have K4:H (Row w4 g 269 (H6 L n ⟨a,b,c ^^^ 255#64,d⟩)):=by show Row _ _ _ _;rw[b0.out];exact K3.set 4 _
 have B4:H (Ab g w w4):=by show Ab _ _ _;rw[b0.out];exact Bn B3 (by simp) _
 go_wp2_with fail
 rw[<-b0.out];clear c4 f4;refine Ax (jDf g L n 4 ⟨a,b,c ^^^ 255#64,d⟩ w4 K4 (by omega)) ?_;rintro e w5 ⟨rfl,h5,e0⟩;have HF:H (fin ⟨a,b,c,d⟩=mxs ⟨a,b,c ^^^ 255#64,d⟩ 4):=rfl;generalize mxs ⟨a,b,c ^^^ 255#64,d⟩ 4=m at h5 HF;obtain⟨p,q,s,t⟩:=m;have K5:H (Row w5 g 269 (H6 L n ⟨p,q,s,t⟩)):=h5;have B5:H (Ab g w w5):=B4.trans e0;clear h5 e0;have c2:=K5.cell 2;have c3:=K5.cell 3;have c4:=K5.cell 4;have c5:=K5.cell 5;simp at c2 c3 c4 c5;go_wp2_with fail
 go_quiet (fail)
 go_wp2
 go_ret
 exact⟨by rw[HU.out,HF.out];rfl,xV B5 _⟩
theorem jGi (a b:BitVec 64) (s:BA) (w:Ad) (hs:s.size<=4194304):CB 232 #[Ao .u64 (U a),Ao .u64 (U b),s] w (Ao .u64 (U (Gs.sip (tat s) a b s.size))):=by
 obtain⟨n,hn⟩:∃ n,s.size=n:=⟨_,rfl⟩;obtain⟨g,HG⟩:=nmH w.1.size;obtain⟨w1,c0⟩:=nmH (w.alloc (J (H6 0 0 (key a b)) 269));have h1:=(jZ c0 HG).out;have b1:Ab g w w1:=by rw[c0.out,HG.out];exact(Az _ _).alloc (Ay _) _
 go_enter func232,ntmps232
 go_wp2_with fail
 refine(jJg a b w).mono ?_;rintro e w' ⟨rfl,hw⟩;rw[<-c0.out] at hw;obtain rfl:=hw.symm;rw[<-HG.out];go_wp2
 go_loopw [14] (fun i wr=>∃ k:Nat,k<=n/\i=Ao Ar k/\Row wr g 269 (H6 (Gs.le (tat s) (8*(k / 8)) (k % 8)) k (Gs.blk (tat s) (key a b) (k / 8)))/\Ab g w wr) (fun i _=>n-(intOf i).toNat)
 case atStart=>exact⟨0,Bi _,rfl,h1,b1⟩
 case round=>
  obtain⟨k,hk,rfl,a0,hb⟩:=hrel;clear h1 b1;by_cases hlt:k<n
  .have k0:(k:Int)<(n:Int):=by omega
   have j0:k<s.size:=by omega
   have K:H _:=a0;clear a0;have HX:=hd ((XU s k j0).symm);have f0:=Gs.le_lt64 (JA s) (8*(k / 8)) (k % 8) (by omega);have HO:H (Gs.le (tat s) (8*(k / 8)) (k % 8) ||| s[k].toNat*2 ^ (8*(k % 8))=Gs.le (tat s) (8*(k / 8)) (k % 8+1)):=by
    show _=_;rw[HX.out,<-Gs.le_or (JA s),show 8*(k / 8)+k % 8=k by omega]
   go_wp2_with fail
   go_still_tail 6,Tryz.mixed
   rw[qO];obtain⟨w2,d0⟩:=nmH wr.drew;rw[<-d0.out];have K2:=Row.drew K.out;rw[<-d0.out] at K2;have B2:Ab g w w2:=by rw[d0.out];exact hb.drew
   have KP:H _:=jPw g _ k s[k].toNat _ w2 K2 (by omega) f0 (jCd _);clear K2 f0;by_cases h8:(k+1) % 8=0
   .have e1:(k+1) / 8=k / 8+1:=by omega
    have e2:=h8;have e3:k % 8+1=8:=by omega
    have HR:H (H6 (Gs.le (tat s) (8*((k+1) / 8)) ((k+1) % 8)) (k+1) (Gs.blk (tat s) (key a b) ((k+1) / 8))=H6 0 (k+1) (inn (Gs.blk (tat s) (key a b) (k / 8)) (BitVec.ofNat 64 (Gs.le (tat s) (8*(k / 8)) 8)))):=by show _=_;rw[e1,e2];rfl
    have hU:=Gs.U_nat (Gs.le_lt64 (JA s) (8*(k / 8)) 8 (by omega));have KU:H _:=hU;rw[HO.out,e3] at KP;clear e1 e2 e3 HO hU;go_wp2_with fail
    refine Ax KP.out ?_;rintro e w3 ⟨rfl,h3,e0⟩;have K3:H _:=h3;clear h3;have b0:decide ((k+1) % 8=0)=Aw:=by simpa using h8
    rw[b0];go_wp2_with fail
    refine Ax (jNg g _ _ _ w3 K3.out) ?_;rintro e w4 ⟨rfl,h4,h0⟩;have K4:H _:=h4;clear h4;go_wp2_with fail
    rw[KU.out];refine Ax (jIk g _ _ _ _ w4 K4.out) ?_;rintro e w5 ⟨rfl,h5,i0⟩;rw[<-HR.out] at h5;have K5:H _:=h5;have B5:=hd (((B2.trans e0).trans h0).trans i0);clear h5;go_wp2
    go_roundw
    case rel=>exact⟨k+1,by omega,by go_num,K5.out,B5.out⟩
    case measure=>simp[intOf];omega
   .have e1:(k+1) / 8=k / 8:=by omega
    have e2:(k+1) % 8=k % 8+1:=by omega
    have HR:H (H6 (Gs.le (tat s) (8*((k+1) / 8)) ((k+1) % 8)) (k+1) (Gs.blk (tat s) (key a b) ((k+1) / 8))=H6 (Gs.le (tat s) (8*(k / 8)) (k % 8+1)) (k+1) (Gs.blk (tat s) (key a b) (k / 8))):=by show _=_;rw[e1,e2]
    rw[HO.out] at KP;clear e1 e2 HO;go_wp2_with fail
    refine Ax KP.out ?_;rintro e w3 ⟨rfl,h3,e0⟩;rw[<-HR.out] at h3;have K3:H _:=h3;clear h3;have B3:=hd (B2.trans e0);have b0:decide ((k+1) % 8=0)=Av:=by simpa using h8
    rw[b0];go_wp2
    go_roundw
    case rel=>exact⟨k+1,by omega,by go_num,K3.out,B3.out⟩
    case measure=>simp[intOf];omega
  .obtain rfl:k=n:=by omega
   have K:H _:=a0;clear a0;go_wp2_with fail
   have HE:=jO7 g _ _ _ wr K.out (by omega) (Gs.le_lt64 (JA s) _ _ (by omega));rw[Gs.shl56 k] at HE;refine Ax HE ?_;clear HE;rintro e w2 ⟨rfl,g0⟩;go_wp2
   go_ret
   refine⟨?_,?_⟩
   .rw[hn];rfl
   .rw[<-HG.out];exact hb.trans g0
end Go.Proofs.YtcaejlalnjnifaaGreat
