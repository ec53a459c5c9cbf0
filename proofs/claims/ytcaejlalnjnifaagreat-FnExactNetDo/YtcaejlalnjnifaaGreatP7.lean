import Derived.Test.YtcaejlalnjnifaaGreatP2
import Derived.Test.YtcaejlalnjnifaaGreatP4
import Derived.WalkSpells
import Derived.WalkLawsBesides
import Derived.Test.YtcaejlalnjnifaaGreatP3
import Derived.Test.YtcaejlalnjnifaaGreatP1
import Derived.Deep.RegionHeld3
import Derived.StillTailTactics
set_option maxHeartbeats 8000000
set_option maxRecDepth 2000
open Go.Value renaming slice->V,pointer->Af,tuple->Ah,agg->Ai,int->Ao,oneCell'->Aq
open Option renaming none->I,some->M
open Go.RowKit renaming Hid->H,Below->Ab
open Go.Addr renaming mk->Q
open Go renaming undef->O,World->Ad,Value->Aj,Calls->Ak,Addr->Al,maxLen->Au
open Go.Obj renaming cells->J
open Go.Ending renaming returned->Ae
open ByteArray renaming empty->Ap
open Go.IntKind renaming i64->Ar
open Bool renaming false->Av,true->Aw
open Go.Proofs.Tryz
open Go.ChangeShapes Go.WideShapes Go.ChangeAt Go.RowKit
namespace Go.Proofs.YtcaejlalnjnifaaGreat
def jQo:List Int:=(List.range 255).map fun i=>((Gf.ex i:Nat):Int)
def jR7:List Int:=(List.range 256).map fun i=>((Gf.lg i:Nat):Int)
def jI1:Array Aj:=(jQo.map (Ao .u8)).toArray
def jRe:Array Aj:=(jR7.map (Ao .u8)).toArray
theorem jI2 {i:Nat} (h:i<255):jI1[i]?=M (Ao .u8 ((Gf.ex i:Nat):Int)):=by
 unfold jI1 jQo;simp[h]
theorem jPl {i:Nat} (h:i<256):jRe[i]?=M (Ao .u8 ((Gf.lg i:Nat):Int)):=by
 unfold jRe jR7;simp[h]
set_option maxRecDepth 100000 in
theorem jMq (n:Int) (r:Nat) (w:Ad) (hr:r<255) (h1:n.tmod 255=(r:Int)):Ak prog 248 #[n] w fun e w'=>e=Ae (Ao .u8 (Gf.ex r:Nat))/\w'=w.alloc (J jI1 277):=by
 have hc:(w.alloc (J jI1 277)).cell? (Q w r I)=M (Ao .u8 (Gf.ex r:Nat)):=by
  rw[cell_of_row _ _ _ _ _ _ (Co w _)];exact jI2 hr
 go_enter func248,ntmps248
 iterate 11 go_step
 refine JD rfl rfl rfl 277 252 255 _ _ _ .u8 jQo rfl rfl rfl (by kernel_rfl) (by kernel_rfl) (by kernel_rfl) (by kernel_rfl) (by kernel_rfl) 5 3 rfl rfl rfl rfl rfl (by decide) (by simp) (by simp) ?_;rw[show (jQo.map (Ao .u8)).toArray=jI1 from rfl];refine wpList_frame (a':={tmps:=#[Ao Ar n,O,Ao .u8 0,Af (Q w 0 I),O,Ai jI1,O,O,O,O,O,O,O,O,O],defers:=[]}) (by kernel_rfl) ?_;refine wpList_nil ?_;go_wp2
 go_ret
 exact⟨rfl,rfl⟩
set_option maxRecDepth 100000 in
theorem jMp (n:Int) (r:Nat) (w:Ad) (hr:r<255) (h1:n.tmod 255=(r:Int)-255):Ak prog 248 #[n] w fun e w'=>e=Ae (Ao .u8 (Gf.ex r:Nat))/\w'=w.alloc (J jI1 277):=by
 have hc:(w.alloc (J jI1 277)).cell? (Q w r I)=M (Ao .u8 (Gf.ex r:Nat)):=by
  rw[cell_of_row _ _ _ _ _ _ (Co w _)];exact jI2 hr
 go_enter func248,ntmps248
 iterate 11 go_step
 refine JD rfl rfl rfl 277 252 255 _ _ _ .u8 jQo rfl rfl rfl (by kernel_rfl) (by kernel_rfl) (by kernel_rfl) (by kernel_rfl) (by kernel_rfl) 5 3 rfl rfl rfl rfl rfl (by decide) (by simp) (by simp) ?_;rw[show (jQo.map (Ao .u8)).toArray=jI1 from rfl];refine wpList_frame (a':={tmps:=#[Ao Ar n,O,Ao .u8 0,Af (Q w 0 I),O,Ai jI1,O,O,O,O,O,O,O,O,O],defers:=[]}) (by kernel_rfl) ?_;refine wpList_nil ?_;go_wp2
 go_ret
 exact⟨rfl,rfl⟩
theorem jGc (n:Int) (w:Ad):CB 248 #[n] w (Ao .u8 (Gf.ex (n % 255).toNat:Nat)):=by
 have hr:(n % 255).toNat<255:=by omega
 have hb:Ab w w (w.alloc (J jI1 277)):=(Az _ _).alloc (Ay _) _;have ht:=Int.tmod_eq_emod (a:=n) (b:=255);by_cases h:0<=n\/(255:Int)∣n
 .rw[A6 h] at ht;refine(jMq n (n % 255).toNat w hr (by omega)).mono ?_;rintro e w' ⟨rfl,rfl⟩;exact⟨rfl,hb⟩
 .rw[A5 h] at ht;refine(jMp n (n % 255).toNat w hr (by simp at ht;omega)).mono ?_;rintro e w' ⟨rfl,rfl⟩;exact⟨rfl,hb⟩
set_option maxRecDepth 100000 in
theorem jEq (r:Nat) (w:Ad) (hr:r<256):CB 249 #[Ao .u8 (r:Int)] w (Ao Ar (Gf.lg r:Nat)):=by
 have hc:(w.alloc (J jRe 278)).cell? (Q w r I)=M (Ao .u8 (Gf.lg r:Nat)):=by
  rw[cell_of_row _ _ _ _ _ _ (Co w _)];exact jPl hr
 have hl:=Gf.lg_lt' r;go_enter func249,ntmps249
 iterate 11 go_step
 refine JD rfl rfl rfl 278 5 256 _ _ _ .u8 jR7 rfl rfl rfl (by kernel_rfl) (by kernel_rfl) (by kernel_rfl) (by kernel_rfl) (by kernel_rfl) 4 3 rfl rfl rfl rfl rfl (by decide) (by simp) (by simp) ?_;rw[show (jR7.map (Ao .u8)).toArray=jRe from rfl];refine wpList_frame (a':={tmps:=#[Ao .u8 (r:Int),O,Ao Ar 0,Af (Q w 0 I),Ai jRe,O,O,O,O],defers:=[]}) (by kernel_rfl) ?_;refine wpList_nil ?_;go_wp2
 go_ret
 exact⟨rfl,(Az _ _).alloc (Ay _) _⟩
theorem jS {k:IntKind} {a b:Int} (h:a=b):Ending.returned (Ao k a)=Ae (Ao k b):=by rw[h]
theorem jQv {a b c d:Ad} (h1:Ab a a b) (h2:Ab b b c) (h3:Ab c c d):Ab a a d:=
 (h1.trans (h2.mono h1.size)).trans (h3.mono (Bx h1.size h2.size))
theorem jA {a b c:Ad} (h1:Ab a a b) (h2:Ab b b c):Ab a a c:=
 h1.trans (h2.mono h1.size)
theorem jQ {a b:Bool} (h:a=b):Ending.returned a=Ae b:=by rw[h]
theorem jCf (a b:Nat) (ha:a<4294967296) (hb:b<4294967296):bits .xor Ar (a:Int) (b:Int)=((a ^^^ b:Nat):Int):=by
 have hx:a ^^^ b<2 ^ 32:=Nat.xor_lt_two_pow (by omega) (by omega);show IntKind.i64.wrap ((BitVec.ofInt 64 (a:Int) ^^^ BitVec.ofInt 64 (b:Int)).toNat:Int)=_;rw[BitVec.toNat_xor,ofInt_u64 a (by omega),ofInt_u64 b (by omega),A8];omega
def isB (a:Int):Bool:=decide (0<=a/\a<=255)
theorem zS {a:Int} (h:isB a=Aw):∃ n:Nat,n<256/\a=(n:Int):=by
 simp[isB] at h;exact⟨a.toNat,by omega,by omega⟩
theorem qV {n:Nat} (h:n<256):isB (n:Int)=Aw:=by simp[isB];omega
def jQq (a n:Int):Int:=if isB a=Aw/\0<=n/\n<=1000000 then ((Gf.gpow a.toNat n.toNat:Nat):Int) else -1
def jQp (a:Int):Int:=if 1<=a/\a<=255 then ((Gf.inv a.toNat:Nat):Int) else -1
theorem jHg (a:Int) (w:Ad):CS 205 #[a] w (isB a):=by
 go_enter func205,ntmps205
 go_wp2
 .go_ret
  exact⟨jQ (by simp[isB, *]),rfl⟩
 .go_ret
  exact⟨jQ (by simp[isB];omega),rfl⟩
theorem jGb (a b:Nat) (w:Ad) (ha:a<256) (hb:b<256):CS 237 #[Ao .u8 (a:Int),Ao .u8 (b:Int)] w (Ao .u8 ((a ^^^ b:Nat):Int)):=by
 have hx:=u8_xor_nat a b ha hb;go_enter func237,ntmps237
 go_wp2
 go_ret
 exact⟨rfl,rfl⟩
theorem jLg (a b:Nat) (w:Ad) (ha:a<256) (hb:b<256):CB 250 #[Ao .u8 (a:Int),Ao .u8 (b:Int)] w (Ao .u8 (Gf.mul a b:Nat)):=by
 by_cases a0:a=0
 .subst a0;have hm:=Gf.zero_mul hb;go_enter func250,ntmps250
  go_wp2
  go_ret
  exact⟨jS (by rw[hm];rfl),Az _ _⟩
 .have f0:((a:Int)==0)=Av:=by simp;omega
  by_cases b0:b=0
  .subst b0;have hm:=Gf.mul_zero ha;go_enter func250,ntmps250
   go_wp2
   go_ret
   exact⟨jS (by rw[hm];rfl),Az _ _⟩
  .have g0:((b:Int)==0)=Av:=by simp;omega
   have hm:=hd (Gf.mul_nz ha hb a0 b0);have h0:=Gf.lg_lt' a;have i0:=Gf.lg_lt' b;go_enter func250,ntmps250
   go_wp2_with fail
   refine(jEq a _ ha).mono ?_;rintro e w1 ⟨rfl,c0⟩;go_wp2_with fail
   refine(jEq b _ hb).mono ?_;rintro e w2 ⟨rfl,d0⟩;go_wp2_with fail
   refine(jGc _ _).mono ?_;rintro e w3 ⟨rfl,e0⟩;go_wp2
   go_ret
   exact⟨jS (by rw[hm.out,show (((Gf.lg a:Nat):Int)+((Gf.lg b:Nat):Int)) % 255=(((Gf.lg a+Gf.lg b) % 255:Nat):Int) by omega,Cz]),jQv c0 d0 e0⟩
theorem jEn (a:Nat) (w:Ad) (ha:a<256):CB 238 #[Ao .u8 (a:Int)] w (Ao .u8 (Gf.inv a:Nat)):=by
 have c0:=Gf.lg_lt' a;go_enter func238,ntmps238
 go_wp2_with fail
 refine(jEq a _ ha).mono ?_;rintro e w1 ⟨rfl,a0⟩;go_wp2_with fail
 refine(jGc _ _).mono ?_;rintro e w2 ⟨rfl,b0⟩;go_wp2
 go_ret
 refine⟨jS ?_,jA a0 b0⟩;unfold Gf.inv;congr 2
 omega
def inB (x a b:Int):Bool:=decide (a<=x/\x<=b)
theorem jM (x a b:Int) (w:Ad):CS 43 #[x,a,b] w (inB x a b):=by
 go_enter func43,ntmps43
 go_wp2
 .go_ret
  exact⟨jQ (by simp[inB, *]),rfl⟩
 .go_ret
  exact⟨jQ (by simp[inB];omega),rfl⟩
theorem JX (a:Int) (w:Ad):CS 182 #[a] w (isB a):=by
 go_enter func182,ntmps182
 go_wp2_with fail
 refine(jM _ _ _ _).mono ?_;rintro e w1 ⟨rfl,rfl⟩;go_wp2
 go_ret
 exact⟨jQ rfl,rfl⟩
theorem ZC (k A B X:Nat):Gf.pea (k+1) A B X=Gf.pea k (Gf.dbl A) (B / 2) (if B % 2=1 then X ^^^ A else X):=rfl
theorem ZG (a b:Nat) (w:Ad) (ha:a<256) (hb:b<256):CS 208 #[(a:Int),(b:Int)] w (Ao Ar (Gf.mul a b:Nat)):=by
 have ia:=qV ha;have ib:=qV hb;go_enter func208,ntmps208
 go_wp2_with (go_at_call 182;refine(JX _ _).mono ?_;rintro e w' ⟨rfl,rfl⟩)
 go_loop [0,1,5] (fun p q r=>∃ A B X k:Nat,A<256/\X<256/\k<=8/\B<2 ^ k/\H (Gf.pea k A B X=Gf.mul a b)/\p=Ao Ar A/\q=Ao Ar B/\r=Ao Ar X) (fun _ q _=>(intOf q).toNat)
 case atStart=>exact⟨a,b,0,8,ha,by omega,by omega,by omega,rfl,rfl,rfl,rfl⟩
 case round=>
  obtain⟨A,B,X,k,hA,hX,hk,hB,HP,rfl,rfl,rfl⟩:=hrel;have d0:=Br hB (Nat.pow_le_pow_right (by omega) hk);by_cases hz:B=0
  .subst hz;go_wp2
   go_ret
   exact⟨jS (by rw[<-HP.out,Gf.pea_zero]),rfl⟩
  .obtain⟨j,rfl⟩:∃ j,k=j+1:=⟨k-1,by
    rcases Fz k with h|h
    .subst h;simp at hB;omega
    .omega⟩
   have c0:0<(B:Int):=by omega
   have hB2:H (B / 2<2 ^ j):=by
    have:B<2 ^ j*2:=by rw[<-Nat.pow_succ];exact hB
    show B / 2<2 ^ j;omega
   have e0:=jCf X A (by omega) (by omega);have f0:bits .xor Ar (2*(A:Int)) 285=(((2*A) ^^^ 285:Nat):Int):=by
    have:=jCf (2*A) 285 (by omega) (by omega)
    simpa using this
   have hlt:=hd (Gf.xor_lt hX hA);have hdl:=hd (Gf.dbl_lt hA);by_cases ho:B % 2=1
   .have b0:((B:Int) % 2==1)=Aw:=by simp;omega
    by_cases hg:255<2*A
    .have a0:255<2*(A:Int):=by omega
     have hd:H (Gf.dbl A=(2*A) ^^^ 285):=by show Gf.dbl A=_;simp[Gf.dbl,hg]
     go_wp2
     go_round
     case rel=>exact⟨Gf.dbl A,B / 2,X ^^^ A,j,hdl,hlt,by omega,hB2.out,by have h:=HP.out;rw[ZC,A6 ho] at h;exact h,by rw[hd.out],by go_num,rfl⟩
     case measure=>simp[intOf];omega
    .have a0:¬ 255<2*(A:Int):=by omega
     have hd:H (Gf.dbl A=2*A):=by show Gf.dbl A=_;simp[Gf.dbl,hg]
     go_wp2
     go_round
     case rel=>exact⟨Gf.dbl A,B / 2,X ^^^ A,j,hdl,hlt,by omega,hB2.out,by have h:=HP.out;rw[ZC,A6 ho] at h;exact h,by rw[hd.out];go_num,by go_num,rfl⟩
     case measure=>simp[intOf];omega
   .have b0:((B:Int) % 2==1)=Av:=by simp;omega
    by_cases hg:255<2*A
    .have a0:255<2*(A:Int):=by omega
     have hd:H (Gf.dbl A=(2*A) ^^^ 285):=by show Gf.dbl A=_;simp[Gf.dbl,hg]
     go_wp2
     go_round
     case rel=>exact⟨Gf.dbl A,B / 2,X,j,hdl,hX,by omega,hB2.out,by have h:=HP.out;rw[ZC,A5 ho] at h;exact h,by rw[hd.out],by go_num,rfl⟩
     case measure=>simp[intOf];omega
    .have a0:¬ 255<2*(A:Int):=by omega
     have hd:H (Gf.dbl A=2*A):=by show Gf.dbl A=_;simp[Gf.dbl,hg]
     go_wp2
     go_round
     case rel=>exact⟨Gf.dbl A,B / 2,X,j,hdl,hX,by omega,hB2.out,by have h:=HP.out;rw[ZC,A5 ho] at h;exact h,by rw[hd.out];go_num,by go_num,rfl⟩
     case measure=>simp[intOf];omega
theorem jM2 (a n:Nat) (w:Ad) (ha:a<256) (hn:n<=1000000):CS 207 #[(a:Int),(n:Int)] w (Ao Ar (Gf.gpow a n:Nat)):=by
 have ia:=qV ha;have ib:inB (n:Int) 0 1000000=Aw:=by simp[inB];omega
 go_enter func207,ntmps207
 go_wp2_with (first|(go_at_call 182;refine(JX _ _).mono ?_;rintro e w' ⟨rfl,rfl⟩)|(go_at_call 43;refine(jM _ _ _ _).mono ?_;rintro e w' ⟨rfl,rfl⟩))
 go_loop [0,1,5] (fun p q r=>∃ A N X:Nat,A<256/\X<256/\N<=1000000/\H (Gf.mul X (Gf.gpow A N)=Gf.gpow a n)/\p=Ao Ar A/\q=Ao Ar N/\r=Ao Ar X) (fun _ q _=>(intOf q).toNat)
 case atStart=>exact⟨a,n,1,ha,by omega,hn,Gf.one_mul (Gf.gpow_lt _ _),rfl,rfl,rfl⟩
 case round=>
  obtain⟨A,N,X,hA,hX,hN,HP,rfl,rfl,rfl⟩:=hrel;by_cases hz:N=0
  .subst hz;go_wp2
   go_ret
   exact⟨jS (by rw[<-HP.out,Gf.gpow_zero,Gf.mul_one hX]),rfl⟩
  .have b0:0<(N:Int):=by omega
   have hr:H (Gf.mul (if N % 2=1 then Gf.mul X A else X) (Gf.gpow (Gf.mul A A) (N / 2))=Gf.gpow a n):=by
    show _=_;rw[Gf.gpow_round hA hX (by omega)];exact HP.out
   have h1:=hd (Gf.mul_lt hA hA);have h2:=hd (Gf.mul_lt hX hA);by_cases ho:N % 2=1
   .have a0:((N:Int) % 2==1)=Aw:=by simp;omega
    go_wp2_with fail
    refine(ZG X A _ hX hA).mono ?_;rintro e w1 ⟨rfl,rfl⟩;go_wp2_with fail
    refine(ZG A A _ hA hA).mono ?_;rintro e w1 ⟨rfl,rfl⟩;go_wp2
    go_round
    case rel=>exact⟨Gf.mul A A,N / 2,Gf.mul X A,h1,h2,by omega,by have h:=hr.out;rw[A6 ho] at h;exact h,rfl,by go_num,rfl⟩
    case measure=>simp[intOf];omega
   .have a0:((N:Int) % 2==1)=Av:=by simp;omega
    go_wp2_with fail
    refine(ZG A A _ hA hA).mono ?_;rintro e w1 ⟨rfl,rfl⟩;go_wp2
    go_round
    case rel=>exact⟨Gf.mul A A,N / 2,X,h1,hX,by omega,by have h:=hr.out;rw[A5 ho] at h;exact h,rfl,by go_num,rfl⟩
    case measure=>simp[intOf];omega
theorem jM1 (a n:Int) (w:Ad):CS 207 #[a,n] w (jQq a n):=by
 by_cases ha:isB a=Aw
 .by_cases hb:inB n 0 1000000=Aw
  .obtain⟨A,hA,rfl⟩:=zS ha;simp[inB] at hb;obtain⟨M,rfl⟩:=Dk hb.1;refine(jM2 A M w hA (by omega)).mono ?_;rintro e w' ⟨rfl,rfl⟩;exact⟨jS (by simp only[jQq];rw[A6 ⟨ha,by omega,by omega⟩];simp),rfl⟩
  .have c0:inB n 0 1000000=Av:=by simpa using hb
   have a0:¬ (0<=n/\n<=1000000):=by simpa [inB] using hb
   go_enter func207,ntmps207
   go_wp2_with (first|(go_at_call 182;refine(JX _ _).mono ?_;rintro e w' ⟨rfl,rfl⟩)|(go_at_call 43;refine(jM _ _ _ _).mono ?_;rintro e w' ⟨rfl,rfl⟩))
   go_ret
   exact⟨jS (by simp only[jQq];rw[A5 (fun h=>a0 h.2)]),rfl⟩
 .have b0:isB a=Av:=by simpa using ha
  go_enter func207,ntmps207
  go_wp2_with (first|(go_at_call 182;refine(JX _ _).mono ?_;rintro e w' ⟨rfl,rfl⟩)|(go_at_call 43;refine(jM _ _ _ _).mono ?_;rintro e w' ⟨rfl,rfl⟩))
  go_ret
  exact⟨jS (by simp[jQq,ha]),rfl⟩
theorem jM0 (a:Int) (w:Ad):CS 186 #[a] w (jQp a):=by
 by_cases h:1<=a/\a<=255
 .have hi:inB a 1 255=Aw:=by simp[inB,h]
  have hv:H (jQq a 254=jQp a):=by
   show _=_;simp only[jQq,jQp];rw[A6 ⟨by simp[isB];omega,by omega,by omega⟩,A6 h,show Int.toNat 254=254 from rfl,Gf.gpow_inv (by omega) (by omega)]
  go_enter func186,ntmps186
  go_wp2_with (first|(go_at_call 43;refine(jM _ _ _ _).mono ?_;rintro e w' ⟨rfl,rfl⟩)|(go_at_call 207;refine(jM1 _ _ _).mono ?_;rintro e w' ⟨rfl,rfl⟩))
  go_ret
  exact⟨jS hv,rfl⟩
 .have hi:inB a 1 255=Av:=by simp[inB];omega
  go_enter func186,ntmps186
  go_wp2_with (go_at_call 43;refine(jM _ _ _ _).mono ?_;rintro e w' ⟨rfl,rfl⟩)
  go_ret
  exact⟨jS (by simp only[jQp];rw[A5 h]),rfl⟩
end Go.Proofs.YtcaejlalnjnifaaGreat
namespace Go.Proofs.YtcaejlalnjnifaaGreat
open Gs (U rolI)
theorem jHr (x:BitVec 64) (n:Int) (w:Ad):CS 256 #[Ao .u64 (U x),n] w (Ao .u64 (U (rolI x n))):=by
 obtain⟨s,HS⟩:∃ s:Nat,H (s=(n % 64).toNat):=⟨_,rfl⟩;have a0:s<64:=by have:=HS.out;omega
 have ha:bits .and .u64 (IntKind.u64.wrap n) 63=(s:Int):=by
  obtain⟨m,hm⟩:∃ m:Nat,IntKind.u64.wrap n=(m:Int):=⟨(IntKind.u64.wrap n).toNat,by rw[Ft];omega⟩;have b0:=hm;rw[Ft] at b0;rw[hm];have:=bits_and_u64_nat m 63 (by omega) (by omega)
  rw[show ((63:Nat):Int)=63 from rfl] at this;rw[this,show (63:Nat)=2 ^ 6-1 from rfl,Nat.and_two_pow_sub_one_eq_mod];have:=HS.out
  omega
 go_enter func256,ntmps256
 go_wp2
 go_ret
 refine⟨jS ?_,rfl⟩;rw[ Gs.U_shl,Gs.U_shr,Gs.U_or,Gs.rol_shifts _ _ a0,HS.out];rfl
theorem jMs (x:BitVec 64) (n:Int) (w:Ad):CS 255 #[Ao .u64 (U x),n] w (Ao .u64 (U (rolI x n))):=by
 go_enter func255,ntmps255
 go_wp2_with fail
 refine(jHr x n _).mono ?_;rintro e w' ⟨rfl,hw⟩;obtain rfl:=hw.symm;go_wp2
 go_ret
 exact⟨rfl,rfl⟩
theorem jOq (n:Int):n.tmod 64=n % 64\/n.tmod 64=n % 64-64/\n % 64≠0/\n<0:=by
 rw[Int.tmod_eq_emod];split
 .omega
 .simp only[show (64:Int).natAbs=64 from rfl];omega
theorem shl1 (x:BitVec 64):IntKind.u64.wrap (U x*2)=U (x <<< 1):=Gs.U_shl x 1
theorem jSo (x:BitVec 64):U x / (9223372036854775808:Int)=U (x >>> 63):=Gs.U_shr x 63
theorem vR (x:BitVec 64) (n:Int) (w:Ad):CS 212 #[Ao .u64 (U x),n] w (Ao .u64 (U (rolI x n))):=by
 obtain⟨r,HR⟩:∃ r:Nat,H (r=(n % 64).toNat):=⟨_,rfl⟩;have b0:r<64:=by have:=HR.out;omega
 by_cases hn:n.tmod 64<0
 have hr:n.tmod 64+64=(r:Int):=by have:=HR.out;have:=jOq n;omega
 rotate_left;have hr:n.tmod 64=(r:Int):=by have:=HR.out;have:=jOq n;omega
 rotate_left;all_goals
  go_enter func212,ntmps212
  go_wp2
  go_loop [0,6] (fun v i=>∃ k:Nat,k<=r/\i=Ao Ar k/\v=Ao .u64 (U (Gs.rol x k))) (fun _ i=>r-(intOf i).toNat)
  case atStart=>exact⟨0,Bi _,rfl,by rw[Gs.rol_zero]⟩
  case round=>
   obtain⟨k,hk,rfl,rfl⟩:=hrel;by_cases hlt:k<r
   .have a0:(k:Int)<(r:Int):=by omega
    go_wp2
    exact⟨⟨k+1,by omega,by go_num,by rw[shl1,jSo,Gs.U_or,Gs.rol_one]⟩,by simp[intOf];omega⟩
   .have e:k=r:=by omega
    subst e;go_wp2
    go_ret
    have e2:rolI x n=Gs.rol x k:=by unfold rolI;rw[<-HR.out]
    exact⟨by rw[e2];rfl,rfl⟩
end Go.Proofs.YtcaejlalnjnifaaGreat
namespace Go.Proofs.YtcaejlalnjnifaaGreat
def jH (w:Ad) (a:OA) (n:Nat) (zs:List Int):Prop:=
 zs.length=n/\∀ i,i<n->∃ b off,a=M (Q b off I)/\w.cell? (Q b (off+i) I)=M (Ao Ar (zs.getD i 0))
theorem jH.below {w w':Ad} {a:OA} {n:Nat} {zs:List Int} (h:jH w a n zs) (hb:Ab w w w'):jH w' a n zs:=by
 refine⟨h.1,fun i hi=>?_⟩;obtain⟨b,off,e,hc⟩:=h.2 i hi;exact⟨b,off,e,(hb.cell (p:=Q b (off+i) I) (A7 hc)).trans hc⟩
theorem jH.some {w:Ad} {a:OA} {n:Nat} {zs:List Int} (h:jH w a n zs) (hn:0<n):∃ b off,a=M (Q b off I)/\∀ i,i<n->w.cell? (Q b (off+i) I)=.some (Ao Ar (zs.getD i 0)):=by
 obtain⟨b,off,e,_⟩:=h.2 0 hn;refine⟨b,off,e,fun i hi=>?_⟩;obtain⟨b',a0,e',hc⟩:=h.2 i hi;rw[e] at e';simp at e';obtain⟨rfl,rfl⟩:=e';exact hc
theorem jOw.ints {w:Ad} {a:OA} {len cap:Nat} {zs:List Int} (h:jOw Ar w a len cap zs):len<=cap/\jH w a len (zs.take len)/\∀ n∈zs.take len,(Lit.int Ar n).wf=Aw:=by
 rcases h with ⟨rfl,rfl,rfl,rfl⟩|⟨x,rfl,hl,hm,hz,a0,d0⟩
 .exact⟨Ay _,⟨rfl,fun i hi=>Bo hi (by omega)⟩,by simp⟩
 .refine⟨hl,⟨by rw[Cu];omega,fun i hi=>?_⟩,fun n hn=>d0 n (List.mem_of_mem_take hn)⟩;obtain⟨b,off,c0⟩:=x;have hc:=a0 i (by omega);have b0:c0=I:=by simpa [Addr.add] using World.cell?_spot (a0 0 (by omega))
  subst b0;refine⟨b,off,rfl,?_⟩;have e:(zs.take len).getD i 0=zs.getD i 0:=by simp[hi]
  rw[e];have ea:((Q b off I):Al).add i=(Q b (off+i) I):=by unfold Addr.add;split <;> simp_all
  rw[<-ea];exact hc
theorem ownsRow.ints {w:Ad} {B E g n cap:Nat} {zs:List Int} (h:w.ownsRow B E 1 (V g n cap) n (zs.map (Ao Ar))):jH w g n zs:=by
 have hl:zs.length=n:=by simpa using h.1
 refine⟨hl,fun i hi=>⟨g,0,rfl,?_⟩⟩;rw[Bq,h.cellAt i (by omega)];simp[hl,hi]
theorem jF {w w':Ad} {B e size n:Nat} {v:Aj} {xs:List Aj} (h:w.ownsRow B e size v n xs) (hb:Ab w w w'):w'.ownsRow B e size v n xs:=by
 refine⟨h.1,?_⟩;rcases h.2 with h'|⟨g,cap,a0,h1,h2,h3,h4⟩
 .exact .inl h'
 .refine .inr ⟨g,cap,a0,h1,h2,?_,h4⟩;rw[hb.block g (By.1 h3).1];exact h3
theorem QY (xs:List Int) (k:Nat) (h:k<xs.length):xs.take (k+1)=xs.take k++[xs.getD k 0]:=by
 rw[List.take_succ_eq_append_getElem h];simp[h]
theorem Tryz.infoByte:(Tryz.prog.info? 5).map (fun i=>(i.zero,i.size,i.bytes))=M (M (Ao .u8 0),1,1):=by kernel_rfl
theorem Tryz.infoInt:(Tryz.prog.info? 3).map (fun i=>(i.zero,i.size,i.bytes))=M (M (Ao Ar 0),1,8):=by kernel_rfl
theorem jAu (d:IntKind) (zs:List Int) (n k:Nat) (hn:zs.length=n) (hk:k<n):((zs.take k++List.replicate (n-k) 0).map (Ao d)).set k (Ao d (zs.getD k 0))=(zs.take (k+1)++List.replicate (n-(k+1)) 0).map (Ao d):=by
 apply Cn
 intro j;simp only[Ez,Eb,List.getElem?_append,Cu,List.length_map,Fd,List.length_replicate,List.getElem?_take,List.getElem?_replicate];by_cases h1:k=j
 .subst h1;simp[hn,hk,show min k n=k by omega,show min (k+1) n=k+1 by omega,show k<k+(n-k) by omega]
 .by_cases h2:j<k
  .simp[h1,h2,hn,show j<min k n by omega,show j<min (k+1) n by omega,show j<k+1 by omega]
  .by_cases h3:j<n
   .simp[h1,hn,show ¬ j<min k n by omega,show ¬ j<min (k+1) n by omega,show j-min k n<n-k by omega,show j-min (k+1) n<n-(k+1) by omega]
   .simp[h1,hn,show ¬ j<min k n by omega,show ¬ j<min (k+1) n by omega,show ¬ j-min k n<n-k by omega,show ¬ j-min (k+1) n<n-(k+1) by omega]
theorem XL (a:OA) (n cap:Nat) (zs:List Int) (w:Ad) (h:jH w a n zs) (hn:n<=1048576):Ak prog 84 #[V a n cap] w fun e w'=>e=Ae (V (Q w 0 I) n n)/\w'.ownsRow w 3 1 (V (Q w 0 I) n n) n (zs.map (Ao Ar))/\Ab w w w':=by
 obtain⟨i0,hi,g0,h0,j0⟩:=Ch Tryz.infoInt;obtain⟨e0,b0⟩:=h;have HL:=hd e0;clear e0;go_enter func84,ntmps84
 go_wp2_with (at_make;refine Cx _ rfl _ _ 40 rfl w 3 i0 () 1 Ec hi g0 h0 Ar Ar _ _ n rfl rfl rfl rfl (by rw[j0];omega) (by unfold Au;omega) (Ay _) ?_;intro w1 a0 d0)
 have hb1:Ab w w w1:=(Az _ _).grown d0 (Ay _) (by simp);have ho1:w1.ownsRow w 3 1 (V (Q w 0 I) n n) n ((zs.take 0++List.replicate (n-0) 0).map (Ao Ar)):=by
  simpa [Value.cells,Dp] using a0
 clear a0 d0;go_loopw [4] (fun i wr=>∃ k:Nat,k<=n/\i=Ao Ar k/\wr.ownsRow w 3 1 (V (Q w 0 I) n n) n ((zs.take k++List.replicate (n-k) 0).map (Ao Ar))/\Ab w w wr) (fun i _=>n-(intOf i).toNat)
 case atStart=>exact⟨0,Bi _,rfl,ho1,hb1⟩
 case round=>
  obtain⟨k,hk,rfl,a0,c0⟩:=hrel;clear ho1 hb1;by_cases hlt:k<n
  .obtain⟨b,off,rfl,hc⟩:=b0 k hlt;have m0:wr.cell? (Q b (off+k) I)=M (Ao Ar (zs.getD k 0)):=(c0.cell (p:=Q b (off+k) I) (A7 hc)).trans hc;obtain⟨old,k0⟩:∃ v,wr.cell? (Q w k I)=M v:=by
    rw[a0.cellAt k (by omega)];exact⟨_,Bj (by rw[a0.1];omega)⟩
   have n0:=a0.frozenAt k;have f0:=a0.stored k (zs.getD k 0);rw[jAu Ar zs n k HL.out hlt] at f0;have hne:Ab w w (wr.setCell (Q w k I) (zs.getD k 0)):=c0.setCell (Ay _) _;have HO:H _:=f0.1;clear f0 a0 b0 hc;go_wp2
   go_roundw
   case rel=>exact⟨k+1,by omega,by go_num,HO.out,hne⟩
   case measure=>simp[intOf];omega
  .have e:k=n:=by omega
   subst e;go_wp2
   go_ret
   refine⟨rfl,?_,c0⟩;have e2:zs.take k++List.replicate (k-k) 0=zs:=by rw[Dl (by rw[HL.out];omega)];simp
   rw[e2] at a0;exact a0
theorem JT (a b:OA) (n ca cb:Nat) (zs:List Int) (w:Ad) (ha:jH w a n zs) (hb:jH w b n zs) (hn:n<=1048576):CB 88 #[V a n ca,V b n cb] w Aw:=by
 go_enter func88,ntmps88
 go_wp2
 go_loopw [5] (fun i wr=>∃ k:Nat,k<=n/\i=Ao Ar k/\Ab w w wr) (fun i _=>n-(intOf i).toNat)
 case atStart=>exact⟨0,Bi _,rfl,Az _ _⟩
 case round=>
  obtain⟨k,hk,rfl,hbel⟩:=hrel;have a0:=ha.below hbel;have b0:=hb.below hbel;clear ha hb;by_cases hlt:k<n
  .obtain⟨ba,oa,rfl,c0⟩:=a0.2 k hlt;obtain⟨bb,ob,rfl,d0⟩:=b0.2 k hlt;clear a0 b0;obtain⟨x,HX⟩:∃ x,x=zs.getD k 0:=⟨_,rfl⟩;rw[<-HX] at c0 d0;clear HX;go_wp2
   go_quiet (fail)
   go_wp2
   go_roundw
   case rel=>exact⟨k+1,by omega,by go_num,Cy hbel _⟩
   case measure=>simp[intOf];omega
  .go_wp2
   go_ret
   exact⟨rfl,hbel⟩
theorem jBn {a b c:Ad} {row:Option Nat} (h:a.grownBy b row) (k:b.grownBy c row):a.grownBy c row:=
 ⟨k.os.trans h.os,k.tape.trans h.tape,k.output.trans h.output,Bx h.size k.size,fun j hj hn=>(k.block j (Br hj h.size) hn).trans (h.block j hj hn)⟩
end Go.Proofs.YtcaejlalnjnifaaGreat
namespace Go.Proofs.YtcaejlalnjnifaaGreat
open Gs (U rolI V4 mx)
abbrev A4 (v:V4):Aj:=Ai #[Ao .u64 (U v.a),Ao .u64 (U v.b),Ao .u64 (U v.c),Ao .u64 (U v.d)]
theorem xV {B:Nat} {a w:Ad} (h:Ab B a w) (n:Nat):Ab B a (w.drewN n):=⟨h.os,h.tape,h.output,h.size,h.block⟩
theorem jPq (v:V4) (w:Ad):CB 254 #[A4 v] w (A4 (mx v)):=by
 obtain⟨a,b,c,d⟩:=v;have a0:=Gs.U_add;have b0:=Gs.U_xor;go_enter func254,ntmps254
 go_wp2_with fail
 go_quiet (fail)
 go_wp2_with (go_at_call 255;refine(jMs _ _ _).mono ?_;rintro e w' ⟨rfl,hw⟩;obtain rfl:=hw.symm)
 refine B7 (v:=A4 (mx ⟨a,b,c,d⟩)) (by simp[results,results254,go_sem,mx]) rfl ⟨rfl,?_⟩;refine Bn (Bn (Bn (Bn ?_ (by simp) _) (by simp) _) (by simp) _) (by simp) _;exact xV (((Az _ _).alloc (Ay _) _).alloc (by simp) _) nq
theorem Tryz.info4:(Tryz.prog.info? 231).map (·.size)=M 4:=by kernel_rfl
theorem Tryz.mixed:Tryz.prog.follows .mixedOrders=Aw:=by kernel_rfl
abbrev C4 (v:V4):Array Aj:=#[Ao .u64 (U v.a),Ao .u64 (U v.b),Ao .u64 (U v.c),Ao .u64 (U v.d)]
structure QF (w0 w:Ad) (g:Nat) (v:V4):Prop where
 row:Row w g 231 (C4 v)
 res:∃ z,Row w (g+1) 231 (C4 z)
 bel:Ab g w0 w
theorem QF.set0 {w0 w:Ad} {g:Nat} {a b c d:BitVec 64} (h:QF w0 w g ⟨a,b,c,d⟩) (x:BitVec 64):QF w0 (w.setCell g (Ao .u64 (U x))) g ⟨x,b,c,d⟩:=
 ⟨h.row.set 0 _,by obtain⟨z,hz⟩:=h.res;exact⟨z,hz.other _ _ (by omega)⟩,h.bel.setCell (Ay _) _⟩
theorem QF.set1 {w0 w:Ad} {g:Nat} {a b c d:BitVec 64} (h:QF w0 w g ⟨a,b,c,d⟩) (x:BitVec 64):QF w0 (w.setCell (Q g 1 I) (Ao .u64 (U x))) g ⟨a,x,c,d⟩:=
 ⟨h.row.set 1 _,by obtain⟨z,hz⟩:=h.res;exact⟨z,hz.other _ _ (by omega)⟩,h.bel.setCell (Ay _) _⟩
theorem QF.set2 {w0 w:Ad} {g:Nat} {a b c d:BitVec 64} (h:QF w0 w g ⟨a,b,c,d⟩) (x:BitVec 64):QF w0 (w.setCell (Q g 2 I) (Ao .u64 (U x))) g ⟨a,b,x,d⟩:=
 ⟨h.row.set 2 _,by obtain⟨z,hz⟩:=h.res;exact⟨z,hz.other _ _ (by omega)⟩,h.bel.setCell (Ay _) _⟩
theorem QF.set3 {w0 w:Ad} {g:Nat} {a b c d:BitVec 64} (h:QF w0 w g ⟨a,b,c,d⟩) (x:BitVec 64):QF w0 (w.setCell (Q g 3 I) (Ao .u64 (U x))) g ⟨a,b,c,x⟩:=
 ⟨h.row.set 3 _,by obtain⟨z,hz⟩:=h.res;exact⟨z,hz.other _ _ (by omega)⟩,h.bel.setCell (Ay _) _⟩
theorem QF.drew {w0 w:Ad} {g:Nat} {v:V4} (h:QF w0 w g v):QF w0 w.drew g v:=⟨h.row,h.res,h.bel.drew⟩
theorem QF.cells {w0 w:Ad} {g:Nat} {a b c d:BitVec 64} (h:QF w0 w g ⟨a,b,c,d⟩):w.cell? g=M (Ao .u64 (U a))/\w.cell? (Q g 1 I)=M (Ao .u64 (U b))/\w.cell? (Q g 2 I)=M (Ao .u64 (U c))/\w.cell? (Q g 3 I)=M (Ao .u64 (U d))/\w.frozen? g=Av/\w.frozen? (Q g 1 I)=Av/\w.frozen? (Q g 2 I)=Av/\w.frozen? (Q g 3 I)=Av:=
 ⟨h.row.cell 0,h.row.cell 1,h.row.cell 2,h.row.cell 3,h.row.free 0,h.row.free 1,h.row.free 2,h.row.free 3⟩
theorem JL (v:V4) (w:Ad):CB 197 #[A4 v] w (A4 (mx v)):=by
 obtain⟨a,b,c,d⟩:=v;have n0:=Gs.U_add;have o0:=Gs.U_xor;obtain⟨w1,b0⟩:=nmH ((w.alloc (J (C4 ⟨a+b,b,c,d⟩) 231)).alloc (J #[Ao .u64 0,Ao .u64 0,Ao .u64 0,Ao .u64 0] 231));have K1:H (QF w w1 w ⟨a+b,b,c,d⟩):=by
  rw[b0.out];refine⟨(Row.new w _ _).alloc _,⟨⟨0,0,0,0⟩,?_⟩,((Az _ _).alloc (Ay _) _).alloc (by simp) _⟩;have:=Row.new (w.alloc (J (C4 ⟨a+b,b,c,d⟩) 231)) #[Ao .u64 0,Ao .u64 0,Ao .u64 0,Ao .u64 0] 231
  rw[show (w.alloc (J (C4 ⟨a+b,b,c,d⟩) 231)).1.size=w.1.size+1 by simp] at this;exact this
 go_enter func197,ntmps197
 go_wp2_with fail
 rw[<-b0.out];obtain⟨w2,a0⟩:=nmH ((((w1.drew.setCell (Q w 1 I) (Ao .u64 (U ((rolI b 13 ^^^ (a+b)))))).setCell (Q w 0 I) (Ao .u64 (U (rolI (a+b) 32)))).setCell (Q w 2 I) (Ao .u64 (U (c+d)))));have K2:H (QF w w2 w ⟨rolI (a+b) 32,(rolI b 13 ^^^ (a+b)),c+d,d⟩):=by rw[a0.out];exact(((K1.drew.set1 ((rolI b 13 ^^^ (a+b)))).set0 (rolI (a+b) 32)).set2 (c+d))
 obtain⟨x1,i0⟩:=nmH w1.drew;have J1:H (QF w x1 w ⟨a+b,b,c,d⟩):=by rw[i0.out];exact K1.drew
 obtain⟨c0,c1,c2,c3,f0,f1,f2,f3⟩:=K1.cells;go_still_tail 7,Tryz.mixed
 still_call (vR b 13 _)
 repeat still_step
 refine Gu ?_;rw[qO,<-i0.out];clear c0 c1 c2 c3 f0 f1 f2 f3;obtain⟨w2,a0⟩:=nmH ((((x1.setCell (Q w 1 I) (Ao .u64 (U ((rolI b 13 ^^^ (a+b)))))).setCell (Q w 0 I) (Ao .u64 (U (rolI (a+b) 32)))).setCell (Q w 2 I) (Ao .u64 (U (c+d)))));have K2:H (QF w w2 w ⟨rolI (a+b) 32,(rolI b 13 ^^^ (a+b)),c+d,d⟩):=by rw[a0.out];exact(((J1.set1 ((rolI b 13 ^^^ (a+b)))).set0 (rolI (a+b) 32)).set2 (c+d))
 obtain⟨c0,c1,c2,c3,f0,f1,f2,f3⟩:=J1.cells;go_wp2_with (go_at_call 212;refine(vR _ _ _).mono ?_;rintro e w' ⟨rfl,hw⟩;obtain rfl:=hw.symm)
 clear c0 c1 c2 c3 f0 f1 f2 f3;rw[<-a0.out];obtain⟨x2,j0⟩:=nmH w2.drew;have J2:H (QF w x2 w ⟨rolI (a+b) 32,(rolI b 13 ^^^ (a+b)),c+d,d⟩):=by rw[j0.out];exact K2.drew
 obtain⟨c0,c1,c2,c3,f0,f1,f2,f3⟩:=K2.cells;go_still_tail 7,Tryz.mixed
 still_call (vR d 16 _)
 repeat still_step
 refine Gu ?_;rw[qO,<-j0.out];clear c0 c1 c2 c3 f0 f1 f2 f3;obtain⟨w3,d0⟩:=nmH (((x2.setCell (Q w 3 I) (Ao .u64 (U ((rolI d 16 ^^^ (c+d)))))).setCell (Q w 0 I) (Ao .u64 (U ((rolI (a+b) 32+(rolI d 16 ^^^ (c+d))))))));have K3:H (QF w w3 w ⟨(rolI (a+b) 32+(rolI d 16 ^^^ (c+d))),(rolI b 13 ^^^ (a+b)),c+d,(rolI d 16 ^^^ (c+d))⟩):=by rw[d0.out];exact((J2.set3 ((rolI d 16 ^^^ (c+d)))).set0 ((rolI (a+b) 32+(rolI d 16 ^^^ (c+d)))))
 obtain⟨c0,c1,c2,c3,f0,f1,f2,f3⟩:=J2.cells;go_wp2_with (go_at_call 212;refine(vR _ _ _).mono ?_;rintro e w' ⟨rfl,hw⟩;obtain rfl:=hw.symm)
 clear c0 c1 c2 c3 f0 f1 f2 f3;rw[<-d0.out];obtain⟨x3,k0⟩:=nmH w3.drew;have J3:H (QF w x3 w ⟨(rolI (a+b) 32+(rolI d 16 ^^^ (c+d))),(rolI b 13 ^^^ (a+b)),c+d,(rolI d 16 ^^^ (c+d))⟩):=by rw[k0.out];exact K3.drew
 obtain⟨c0,c1,c2,c3,f0,f1,f2,f3⟩:=K3.cells;go_still_tail 7,Tryz.mixed
 still_call (vR (rolI d 16 ^^^ (c+d)) 21 _)
 repeat still_step
 refine Gu ?_;rw[qO,<-k0.out];clear c0 c1 c2 c3 f0 f1 f2 f3;obtain⟨w4,e0⟩:=nmH (((x3.setCell (Q w 3 I) (Ao .u64 (U ((rolI (rolI d 16 ^^^ (c+d)) 21 ^^^ (rolI (a+b) 32+(rolI d 16 ^^^ (c+d)))))))).setCell (Q w 2 I) (Ao .u64 (U (((c+d)+(rolI b 13 ^^^ (a+b))))))));have K4:H (QF w w4 w ⟨(rolI (a+b) 32+(rolI d 16 ^^^ (c+d))),(rolI b 13 ^^^ (a+b)),((c+d)+(rolI b 13 ^^^ (a+b))),(rolI (rolI d 16 ^^^ (c+d)) 21 ^^^ (rolI (a+b) 32+(rolI d 16 ^^^ (c+d))))⟩):=by rw[e0.out];exact((J3.set3 ((rolI (rolI d 16 ^^^ (c+d)) 21 ^^^ (rolI (a+b) 32+(rolI d 16 ^^^ (c+d)))))).set2 (((c+d)+(rolI b 13 ^^^ (a+b)))))
 obtain⟨c0,c1,c2,c3,f0,f1,f2,f3⟩:=J3.cells;go_wp2_with (go_at_call 212;refine(vR _ _ _).mono ?_;rintro e w' ⟨rfl,hw⟩;obtain rfl:=hw.symm)
 clear c0 c1 c2 c3 f0 f1 f2 f3;rw[<-e0.out];obtain⟨x4,m0⟩:=nmH w4.drew;have J4:H (QF w x4 w ⟨(rolI (a+b) 32+(rolI d 16 ^^^ (c+d))),(rolI b 13 ^^^ (a+b)),((c+d)+(rolI b 13 ^^^ (a+b))),(rolI (rolI d 16 ^^^ (c+d)) 21 ^^^ (rolI (a+b) 32+(rolI d 16 ^^^ (c+d))))⟩):=by rw[m0.out];exact K4.drew
 obtain⟨c0,c1,c2,c3,f0,f1,f2,f3⟩:=K4.cells;go_still_tail 7,Tryz.mixed
 still_call (vR (rolI b 13 ^^^ (a+b)) 17 _)
 repeat still_step
 refine Gu ?_;rw[qO,<-m0.out];clear c0 c1 c2 c3 f0 f1 f2 f3;obtain⟨c0,c1,c2,c3,f0,f1,f2,f3⟩:=J4.cells;obtain⟨w5,h0⟩:=nmH (((x4.setCell (Q w 1 I) (Ao .u64 (U ((rolI (rolI b 13 ^^^ (a+b)) 17 ^^^ ((c+d)+(rolI b 13 ^^^ (a+b)))))))).setCell (Q w 2 I) (Ao .u64 (U (rolI ((c+d)+(rolI b 13 ^^^ (a+b))) 32)))));have K5:H (QF w w5 w ⟨(rolI (a+b) 32+(rolI d 16 ^^^ (c+d))),(rolI (rolI b 13 ^^^ (a+b)) 17 ^^^ ((c+d)+(rolI b 13 ^^^ (a+b)))),rolI ((c+d)+(rolI b 13 ^^^ (a+b))) 32,(rolI (rolI d 16 ^^^ (c+d)) 21 ^^^ (rolI (a+b) 32+(rolI d 16 ^^^ (c+d))))⟩):=by rw[h0.out];exact(J4.set1 _).set2 _
 have R5:H (Row w5 w 231 (C4 ⟨(rolI (a+b) 32+(rolI d 16 ^^^ (c+d))),(rolI (rolI b 13 ^^^ (a+b)) 17 ^^^ ((c+d)+(rolI b 13 ^^^ (a+b)))),rolI ((c+d)+(rolI b 13 ^^^ (a+b))) 32,(rolI (rolI d 16 ^^^ (c+d)) 21 ^^^ (rolI (a+b) 32+(rolI d 16 ^^^ (c+d))))⟩)):=K5.row;obtain⟨z,hz⟩:=K5.res;have Z5:H (Row w5 (w.1.size+1) 231 (C4 z)):=hz;clear hz;go_wp2_with fail
 refine(vR _ _ _).mono ?_;rintro e w' ⟨rfl,hw⟩;obtain rfl:=hw.symm;have ZR:H (Row ((((w5.setCell (Q (w.1.size+1) 0 I) (Ao .u64 (U (rolI (a+b) 32+(rolI d 16 ^^^ (c+d)))))).setCell (Q (w.1.size+1) 1 I) (Ao .u64 (U (rolI (rolI b 13 ^^^ (a+b)) 17 ^^^ ((c+d)+(rolI b 13 ^^^ (a+b))))))).setCell (Q (w.1.size+1) 2 I) (Ao .u64 (U (rolI ((c+d)+(rolI b 13 ^^^ (a+b))) 32)))).setCell (Q (w.1.size+1) 3 I) (Ao .u64 (U (rolI (rolI d 16 ^^^ (c+d)) 21 ^^^ (rolI (a+b) 32+(rolI d 16 ^^^ (c+d))))))) (w.1.size+1) 231 (C4 (mx ⟨a,b,c,d⟩))):=(((Z5.set 0 _).set 1 _).set 2 _).set 3 _;have q0:=Z5.cell 0;have q1:=Z5.cell 1;have q2:=Z5.cell 2;have q3:=Z5.cell 3;have g0:=Z5.free 0;have g1:=Z5.free 1;have g2:=Z5.free 2;have g3:=Z5.free 3;simp at q0 q1 q2 q3;go_wp2_with (rw[<-h0.out];refine Bg rfl 231 _ rfl w rfl 231 _ (0,0) _ R5 Fg rfl Tryz.info4 ?_;clear c0 c1 c2 c3 f0 f1 f2 f3)
 clear q0 q1 q2 q3 g0 g1 g2 g3;refine B7 (v:=A4 (mx ⟨a,b,c,d⟩)) (Cs results197 _ _ (w.1.size+1) 231 _ (0,0) _ (by simp) ZR Fg rfl Tryz.info4) rfl ⟨rfl,?_⟩;exact Bn (Bn (Bn (Bn K5.bel (by simp) _) (by simp) _) (by simp) _) (by simp) _
end Go.Proofs.YtcaejlalnjnifaaGreat
namespace Go.Proofs.YtcaejlalnjnifaaGreat
theorem xU {a b:BA} (h:a=b):Ending.returned a=Ae b:=by rw[h]
theorem jCd (c:UInt8):c.toNat<256:=c.toNat_lt
def jAk (s:BA) (A:Nat):List Int:=s.data.toList.map fun c=>((Gf.mul c.toNat A:Nat):Int)
def vV (s:BA) (a:Int):BA:=if isB a=Aw then strOfNums (jAk s a.toNat) else Ap
theorem jBa (s:BA) (A:Nat):(jAk s A).length=s.size:=by simp[jAk]
theorem jDv (s:BA) (A k:Nat) (h:k<s.size):(jAk s A).getD k 0=((Gf.mul s[k].toNat A:Nat):Int):=by
 have h':k<s.data.toList.length:=by simpa using h
 simp only[jAk,List.getD,Eb,Bj h',Gq,Er];rfl
theorem jH0 (s:BA) (A:Nat) (w:Ad) (hs:s.size<=1048576) (hA:A<256):CB 187 #[s,(A:Int)] w (strOfNums (jAk s A)):=by
 obtain⟨i0,hi,h0,j0,k0⟩:=Ch Tryz.infoByte;have ia:=qV hA;obtain⟨xs,HX⟩:=nmH (jAk s A);obtain⟨n,hn⟩:∃ n,s.size=n:=⟨_,rfl⟩;have HL:H (xs.length=n):=by show _=_;rw[HX.out,jBa,hn]
 go_enter func187,ntmps187
 go_wp2_with fail
 refine(JX _ _).mono ?_;rintro e w' ⟨rfl,hw⟩;obtain rfl:=hw.symm;go_wp2
 have ho1:(w.alloc (J #[] 5)).ownsRow w 5 1 (V (Q w 0 I) 0 0) 0 ((xs.take 0).map (Ao .u8)):=
  Cc w #[] 0 (Ay _) (by unfold Au;omega) rfl
 go_loopw [5,6] (fun v i wr=>∃ k:Nat,k<=n/\i=Ao Ar k/\wr.ownsRow w 5 1 v k ((xs.take k).map (Ao .u8))/\H (v≠V I 0 0)/\Ab w w wr) (fun _ i _=>n-(intOf i).toNat)
 case atStart=>exact⟨0,Bi _,rfl,ho1,by simp[H],(Az _ _).alloc (Ay _) _⟩
 case round=>
  obtain⟨k,hk,rfl,a0,HV,hbel⟩:=hrel;by_cases hlt:k<n
  .have f0:k<s.size:=by omega
   have o0:=Gf.mul_lt (jCd s[k]) hA;have HE:H (xs.take (k+1)=xs.take k++[((Gf.mul s[k].toNat A:Nat):Int)]):=by
    show _=_;rw[QY xs k (by rw[HL.out];exact hlt),HX.out,jDv s A k f0]
   have e0:=jCd s[k];go_wp2_with fail
   refine(ZG _ A _ e0 hA).mono ?_;rintro e w1 ⟨rfl,g0⟩;obtain rfl:=g0.symm;go_wp2_with (at_builtin;refine wpList_append_own _ rfl _ _ 22 rfl w 5 i0 (Ao .u8 0) 1 1 Cq hi h0 j0 k0 rfl (by decide) _ _ _ rfl (a0.alloc _) ⟨wr.1.size,0,I⟩ 1 1 [Ao .u8 ((Gf.mul s[k].toNat A:Nat):Int)] rfl rfl ?c1 ?c2 ?c3 ?c4 ?c5 ?_)
   case c1=>
    intro j u hj;match j,hj with
    | 0,hj=>simp at hj;subst hj;simp[Addr.add]
   case c2=>intro u hu;simp at hu;subst hu;rfl
   case c3=>unfold Au;omega
   case c4=>omega
   case c5=>have:=hbel.size;simp;omega
   .intro v' w1 c0 b0 d0;have HV':=hd d0;have HO:H (w1.ownsRow w 5 1 v' (k+1) ((xs.take (k+1)).map (Ao .u8))):=by
     rw[HE.out,Dv,G0];exact c0
    have hb':=(hbel.alloc hbel.size _).grown b0 (by have:=hbel.size;simp;omega) (fun j hj=>(a0.lt j hj).1);go_wp2
    go_roundw
    case rel=>exact⟨k+1,by omega,by go_num,HO.out,HV'.out,hb'⟩
    case measure=>simp[intOf];omega
  .have e:k=n:=by omega
   subst e;rw[Dl (by rw[HL.out];omega)] at a0;obtain⟨g,cap,rfl⟩:∃ g cap,u5=V (Q g 0 I) k cap:=by
    rcases a0.2 with h|⟨g,cap,m0,h,_⟩
    .exact Bo h.1 HV
    .exact⟨g,cap,h⟩
   have n0:=Dq (P:=prog) wr 22 5 Cq D9 g 0 k cap xs HL (fun i hi=>by
    rw[Bq,a0.cellAt i (by omega)];simp[HL.out,hi]) 9 C6
   go_wp2
   go_ret
   exact⟨xU (by rw[HX.out]),hbel⟩
theorem jA8 (s:BA) (a:Int) (w:Ad) (hs:s.size<=1048576):CB 187 #[s,a] w (vV s a):=by
 by_cases ha:isB a=Aw
 .obtain⟨A,hA,rfl⟩:=zS ha;refine(jH0 s A w hs hA).mono ?_;rintro e w' ⟨rfl,hb⟩;exact⟨xU (by simp[vV,ha]),hb⟩
 .have a0:isB a=Av:=by simpa using ha
  go_enter func187,ntmps187
  go_wp2_with (go_at_call 182;refine(JX _ _).mono ?_;rintro e w' ⟨rfl,rfl⟩)
  go_ret
  exact⟨xU (by simp[vV,ha];rfl),Az _ _⟩
theorem jC {w w1:Ad} (h:Ab w.drew.1.size w.drew w1):Ab w w w1:=⟨h.os,h.tape,h.output,h.size,h.block⟩
theorem jW {w:Ad} {B e s:Nat} {a:OA} {n cap n':Nat} {xs:List Aj} (h:w.ownsRow B e s (V a n cap) n' xs):(a=I/\n=0/\cap=0)\/∃ g a0,a=M (Q g 0 I)/\B<=g/\w.1[g]?=M (J a0 e)/\n<=cap:=by
 rcases h.2 with ⟨h',_⟩|⟨g,b0,a0,h',hb,hg,hn,_⟩
 .cases h';exact .inl ⟨rfl,rfl,rfl⟩
 .cases h';exact .inr ⟨g,a0,rfl,hb,hg,hn⟩
theorem jL {w w':Ad} {B e s n:Nat} {a:OA} {l c b:Nat} {xs:List Aj} (h:w.ownsRow B e s (V a l c) n xs) (hg:w.grownBy w' (M b)) (hn:∀ x,a=M x->x.block≠b):w'.ownsRow B e s (V a l c) n xs:=by
 refine World.ownsRow.kept h hg ?_;cases a with
 | none=>exact .inl rfl
 | some x=>exact .inr (by simp[Value.ownBlock];exact hn x rfl)
theorem jN (w:Ad) (g j:Nat) (v:Aj):w.grownBy (w.setCell (Q g j I) v) (M g):=
 ⟨rfl,rfl,rfl,by simp,fun i _ hi=>Ck w (Q g j I) i _ (fun e=>hi (by simp[e]))⟩
structure zC (w w':Ad) (B E:Nat):Prop where
 os:w'.os=w.os
 tape:w'.tape=w.tape
 output:w'.output=w.output
 size:w.1.size<=w'.1.size
 block:∀ j,j<w.1.size->(j<B\/E<=j)->w'.1[j]?=w.1[j]?
theorem zC.refl (w:Ad) (B E:Nat):zC w w B E:=⟨rfl,rfl,rfl,Ay _,fun _ _ _=>rfl⟩
theorem zC.trans {w w1 w2:Ad} {B E:Nat} (h:zC w w1 B E) (h2:zC w1 w2 B E):zC w w2 B E:=
 ⟨h2.os.trans h.os,h2.tape.trans h.tape,h2.output.trans h.output,Bx h.size h2.size,fun j hj hr=>(h2.block j (Br hj h.size) hr).trans (h.block j hj hr)⟩
def tot (L:Nat->Nat):Nat->Nat
 | 0=>0
 | n+1=>tot L n+L n
theorem jGs (L:Nat->Nat) {i n:Nat} (h:i<n):tot L i+L i<=tot L n:=by
 induction n with
 | zero=>omega
 | succ n ih=>
  by_cases e:i=n
  .subst e;exact Ay _
  .have:=ih (by omega)
   show _<=tot L n+L n;omega
theorem jX {w:Ad} {B B' e s n:Nat} {v:Aj} {xs:List Aj} (h:w.ownsRow B e s v n xs) (hB:B'<=B):w.ownsRow B' e s v n xs:=by
 refine⟨h.1,?_⟩;rcases h.2 with h'|⟨g,cap,a0,h1,h2,h3⟩
 .exact .inl h'
 .exact .inr ⟨g,cap,a0,h1,by omega,h3⟩
def szF (L:Nat->Nat) (n l:Nat):Int:=if n+tot L n<=l then ((l-(n+tot L n):Nat):Int) else -1
end Go.Proofs.YtcaejlalnjnifaaGreat
namespace Go.Proofs.YtcaejlalnjnifaaGreat
open Gs (U rolI V4 mx inn key all4 fin)
abbrev H6 (L n:Nat) (v:V4):Array Aj:=#[Ao .u64 (L:Int),Ao Ar (n:Int),Ao .u64 (U v.a),Ao .u64 (U v.b),Ao .u64 (U v.c),Ao .u64 (U v.d)]
theorem jJg (a b:BitVec 64) (w:Ad):Ak prog 243 #[Ao .u64 (U a),Ao .u64 (U b)] w fun e w'=>e=Ae (Af (Q w 0 I))/\w'=w.alloc (J (H6 0 0 (key a b)) 269):=by
 have h1:bits .xor .u64 (U a) 8317987319222330741=U (a ^^^ 8317987319222330741#64):=Gs.U_xor a 8317987319222330741#64;have h2:bits .xor .u64 (U b) 7237128888997146477=U (b ^^^ 7237128888997146477#64):=Gs.U_xor b 7237128888997146477#64;have h3:bits .xor .u64 (U a) 7816392313619706465=U (a ^^^ 7816392313619706465#64):=Gs.U_xor a 7816392313619706465#64;have h4:bits .xor .u64 (U b) 8387220255154660723=U (b ^^^ 8387220255154660723#64):=Gs.U_xor b 8387220255154660723#64;go_enter func243,ntmps243
 go_wp2
 go_ret
 exact⟨rfl,rfl⟩
theorem jRs (L x k:Nat) (hL:L<18446744073709551616) (hx:x<256) (hk:k<8):bits .or .u64 (L:Int) (IntKind.u64.wrap ((x:Int)*2 ^ (8*k)))=((L ||| x*2 ^ (8*k):Nat):Int):=by
 have hp:x*2 ^ (8*k)<18446744073709551616:=by
  have h1:(2:Nat) ^ (8*k)<=2 ^ 56:=Nat.pow_le_pow_right (by omega) (by omega);have h2:x*2 ^ (8*k)<=255*2 ^ 56:=Nat.mul_le_mul (by omega) h1;omega
 have e:IntKind.u64.wrap ((x:Int)*2 ^ (8*k))=((x*2 ^ (8*k):Nat):Int):=by
  have:=Gs.wrap_nat (x*2 ^ (8*k))
  rw[Dw hp] at this;rw[<-this];simp
 rw[e,bits_or_u64_nat _ _ hL hp]
theorem jPw (g L n x:Nat) (v:V4) (w:Ad) (h:Row w g 269 (H6 L n v)) (hn:n<=4194304) (hL:L<18446744073709551616) (hx:x<256):Ak prog 244 #[Af g,Ao .u8 (x:Int)] w fun e w'=>e=Ae (decide ((n+1) % 8=0))/\Row w' g 269 (H6 (L ||| x*2 ^ (8*(n % 8))) (n+1) v)/\Ab g w w':=by
 have c0:=h.cell 0;have c1:=h.cell 1;have f0:=h.free 0;have f1:=h.free 1;simp at c0 c1;obtain⟨k,HK⟩:=nmH (n % 8);have b0:k<8:=by have:=HK.out;omega
 have d0:(n:Int) % 8=(k:Int):=by have:=HK.out;omega
 have hm:(n:Int).tmod 8=(k:Int):=by rw[Ef (by omega)];exact d0
 have g0:=jRs L x k hL hx b0;have h0:IntKind.u64.wrap (x:Int)=(x:Int):=by rw[Ft];omega
 have e0:IntKind.i64.wrap (8*(k:Int))=((8*k:Nat):Int):=by rw[A8];omega
 go_enter func244,ntmps244
 go_wp2_with fail
 go_still_tail 16,Tryz.mixed
 rw[qO];obtain⟨w1,a0⟩:=nmH w.drew;rw[<-a0.out];have K1:H (Row w1 g 269 (H6 L n v)):=by show Row _ _ _ _;rw[a0.out];exact h.drew
 have B1:H (Ab g w w1):=by show Ab _ _ _;rw[a0.out];exact(Az _ _).drew
 have c0:=K1.cell 0;have c1:=K1.cell 1;have f0:=K1.free 0;have f1:=K1.free 1;simp at c0 c1;go_wp2
 go_ret
 refine⟨jQ ?_,?_,(B1.setCell (Ay _) _).setCell (Ay _) _⟩
 .rw[Bool.eq_iff_iff];simp
  omega
 .rw[<-HK.out];exact(K1.set 0 _).set 1 _
theorem jNg (g L n:Nat) (v:V4) (w:Ad) (h:Row w g 269 (H6 L n v)):Ak prog 246 #[Af g] w fun e w'=>e=Ae (Ao .u64 (L:Int))/\Row w' g 269 (H6 0 n v)/\Ab g w w':=by
 have c0:=h.cell 0;have f0:=h.free 0;simp at c0;have K:=hd h;go_enter func246,ntmps246
 go_wp2
 go_ret
 exact⟨rfl,K.set 0 _,Bn (Az g _) (p:=Q g 0 I) (Ay _) _⟩
theorem jMa (g L n:Nat) (v:V4) (w:Ad) (h:Row w g 269 (H6 L n v)) (hn:n<=4194304) (hL:L<18446744073709551616):Ak prog 253 #[Af g] w fun e w'=>e=Ae (Ao .u64 (U (BitVec.ofNat 64 L ||| (BitVec.ofNat 64 n <<< 56))))/\Row w' g 269 (H6 L n v)/\Ab g w w':=by
 have c0:=h.cell 0;have c1:=h.cell 1;simp at c0 c1;have K:=hd h;have b0:IntKind.u64.wrap (n:Int)=(n:Int):=by rw[Ft];omega
 have a0:bits .or .u64 (L:Int) (IntKind.u64.wrap ((n:Int)*72057594037927936))=U (BitVec.ofNat 64 L ||| (BitVec.ofNat 64 n <<< 56)):=by
  rw[Gs.U_nat (n:=n) (by omega),show (72057594037927936:Int)=2 ^ 56 by decide,Gs.U_shl,Gs.U_nat hL,Gs.U_or]
 go_enter func253,ntmps253
 go_wp2_with fail
 go_quiet (fail)
 go_wp2
 go_ret
 exact⟨rfl,K,xV (Az _ _) _⟩
def mxs (v:V4):Nat->V4
 | 0=>v
 | k+1=>mx (mxs v k)
theorem jDf (g L n r:Nat) (v:V4) (w:Ad) (h:Row w g 269 (H6 L n v)) (hr:r<=4):Ak prog 252 #[Af g,(r:Int)] w fun e w'=>e=Ae (Ah #[])/\Row w' g 269 (H6 L n (mxs v r))/\Ab g w w':=by
 go_enter func252,ntmps252
 go_wp2
 go_loopw [5] (fun i wr=>∃ k:Nat,k<=r/\i=Ao Ar k/\Row wr g 269 (H6 L n (mxs v k))/\Ab g w wr) (fun i _=>r-(intOf i).toNat)
 case atStart=>exact⟨0,Bi _,rfl,h,Az _ _⟩
 case round=>
  obtain⟨k,hk,rfl,a0,hb⟩:=hrel;clear h;by_cases hlt:k<r
  .have d0:(k:Int)<(r:Int):=by omega
   obtain⟨a,b,c,d,HV⟩:∃ a b c d,H (mxs v k=⟨a,b,c,d⟩):=⟨_,_,_,_,rfl⟩;rw[HV.out] at a0;have c2:=a0.cell 2;have c3:=a0.cell 3;have c4:=a0.cell 4;have c5:=a0.cell 5;simp at c2 c3 c4 c5;have K:H (Row wr g 269 (H6 L n ⟨a,b,c,d⟩)):=a0;clear a0;have hM:=jPq ⟨a,b,c,d⟩ wr;have HS:H (mxs v (k+1)=mx ⟨a,b,c,d⟩):=by show _=_;rw[mxs,HV.out]
   generalize mx ⟨a,b,c,d⟩=m at hM HS;obtain⟨p,q,s,t⟩:=m;have KM:H _:=hM;clear hM;go_wp2_with fail
   refine Ax KM.out ?_;rintro e w2 ⟨rfl,b0⟩;have c0:=K.lt;have K2:H (Row w2 g 269 (H6 L n ⟨a,b,c,d⟩)):=K.below b0 c0;have HB:H (Ab g w w2):=hb.trans (b0.mono (by omega));have KN:H (Row ((((w2.setCell (Q g 2 I) (Ao .u64 (U p))).setCell (Q g 3 I) (Ao .u64 (U q))).setCell (Q g 4 I) (Ao .u64 (U s))).setCell (Q g 5 I) (Ao .u64 (U t))) g 269 (H6 L n (mxs v (k+1)))):=by
    show Row _ _ _ _;rw[HS.out];exact(((K2.set 2 _).set 3 _).set 4 _).set 5 _
   have BN:H (Ab g w ((((w2.setCell (Q g 2 I) (Ao .u64 (U p))).setCell (Q g 3 I) (Ao .u64 (U q))).setCell (Q g 4 I) (Ao .u64 (U s))).setCell (Q g 5 I) (Ao .u64 (U t)))):=Bn (Bn (Bn (Bn HB (by simp) _) (by simp) _) (by simp) _) (by simp) _;clear c2 c3 c4 c5;have c2:=K2.cell 2;have c3:=K2.cell 3;have c4:=K2.cell 4;have c5:=K2.cell 5;have f2:=K2.free 2;have f3:=K2.free 3;have f4:=K2.free 4;have f5:=K2.free 5;simp at c2 c3 c4 c5;go_wp2
   go_roundw
   case rel=>exact⟨k+1,by omega,by go_num,KN.out,BN.out⟩
   case measure=>simp[intOf];omega
  .obtain rfl:k=r:=by omega
   have K:H (Row wr g 269 (H6 L n (mxs v k))):=a0;clear a0;go_wp2
   go_end0
   exact⟨rfl,K,hb⟩
theorem jIk (g L n:Nat) (v:V4) (x:BitVec 64) (w:Ad) (h:Row w g 269 (H6 L n v)):Ak prog 245 #[Af g,Ao .u64 (U x)] w fun e w'=>e=Ae (Ah #[])/\Row w' g 269 (H6 L n (inn v x))/\Ab g w w':=by
 obtain⟨a,b,c,d⟩:=v;have e0:=Gs.U_xor;have c5:=h.cell 5;have f5:=h.free 5;simp at c5;have K0:H (Row w g 269 (H6 L n ⟨a,b,c,d⟩)):=h;clear h;go_enter func245,ntmps245
 go_wp2_with fail
 go_still_tail 10,Tryz.mixed
 rw[qO];obtain⟨w1,a0⟩:=nmH w.drew;rw[<-a0.out];have K1:H (Row w1 g 269 (H6 L n ⟨a,b,c,d⟩)):=by show Row _ _ _ _;rw[a0.out];exact K0.drew
 have B1:H (Ab g w w1):=by show Ab _ _ _;rw[a0.out];exact(Az _ _).drew
 clear c5 f5;have c5:=K1.cell 5;have f5:=K1.free 5;simp at c5;obtain⟨w2,b0⟩:=nmH (w1.setCell (Q g 5 I) (Ao .u64 (U (d ^^^ x))));have K2:H (Row w2 g 269 (H6 L n ⟨a,b,c,d ^^^ x⟩)):=by show Row _ _ _ _;rw[b0.out];exact K1.set 5 _
 have B2:H (Ab g w w2):=by show Ab _ _ _;rw[b0.out];exact Bn B1 (by simp) _
 go_wp2_with fail
 rw[<-b0.out];have hm:=jDf g L n 2 ⟨a,b,c,d ^^^ x⟩ w2 K2 (by omega);refine Ax hm ?_;rintro e w3 ⟨rfl,h3,d0⟩;clear hm c5 f5;have HI:H (inn ⟨a,b,c,d⟩ x=⟨(mxs ⟨a,b,c,d ^^^ x⟩ 2).a ^^^ x,(mxs ⟨a,b,c,d ^^^ x⟩ 2).b,(mxs ⟨a,b,c,d ^^^ x⟩ 2).c,(mxs ⟨a,b,c,d ^^^ x⟩ 2).d⟩):=rfl;generalize mxs ⟨a,b,c,d ^^^ x⟩ 2=m at h3 HI;obtain⟨p,q,s,t⟩:=m;have K3:H (Row w3 g 269 (H6 L n ⟨p,q,s,t⟩)):=h3;have B3:H (Ab g w w3):=B2.trans d0;clear h3 d0;have c2:=K3.cell 2;have f2:=K3.free 2;simp at c2;go_wp2_with fail
 go_still_tail 10,Tryz.mixed
 rw[qO];obtain⟨w4,c0⟩:=nmH w3.drew;rw[<-c0.out];have K4:H (Row w4 g 269 (H6 L n ⟨p,q,s,t⟩)):=by show Row _ _ _ _;rw[c0.out];exact K3.drew
 have B4:H (Ab g w w4):=by show Ab _ _ _;rw[c0.out];exact B3.drew
 clear c2 f2;have c2:=K4.cell 2;have f2:=K4.free 2;simp at c2;go_wp2
 go_end0
 refine⟨rfl,?_,Bn B4 (by simp) _⟩;rw[HI.out];exact K4.set 2 _
end Go.Proofs.YtcaejlalnjnifaaGreat
namespace Go.Proofs.YtcaejlalnjnifaaGreat
def jOz (s t:BA):List Int:=List.zipWith (fun(c d:UInt8)=>((c.toNat ^^^ d.toNat:Nat):Int)) s.data.toList t.data.toList
def jLq (s t:BA):BA:=if s.size=t.size then strOfNums (jOz s t) else Ap
theorem jFp (s t:BA) (h:s.size=t.size):(jOz s t).length=s.size:=by
 have h':s.data.toList.length=t.data.toList.length:=by simpa using h
 simp[jOz] at *;omega
theorem jIj (s t:BA) (k:Nat) (h:k<s.size) (h2:k<t.size):(jOz s t).getD k 0=((s[k].toNat ^^^ t[k].toNat:Nat):Int):=by
 have h':k<s.data.toList.length:=by simpa using h
 have a0:k<t.data.toList.length:=by simpa using h2
 simp only[jOz,List.getD,List.getElem?_zipWith,Bj h',Bj a0,Er];rfl
theorem jHt (s t:BA) (w:Ad) (hs:s.size<=1048576) (ht:s.size=t.size):CB 188 #[s,t] w (strOfNums (jOz s t)):=by
 obtain⟨i0,hi,k0,m0,n0⟩:=Ch Tryz.infoByte;obtain⟨xs,HX⟩:=nmH (jOz s t);obtain⟨n,hn⟩:∃ n,s.size=n:=⟨_,rfl⟩;have q0:t.size=n:=by omega
 have HL:H (xs.length=n):=by show _=_;rw[HX.out,jFp s t ht,hn]
 clear ht;go_enter func188,ntmps188
 go_wp2
 have ho1:(w.alloc (J #[] 5)).ownsRow w 5 1 (V (Q w 0 I) 0 0) 0 ((xs.take 0).map (Ao .u8)):=
  Cc w #[] 0 (Ay _) (by unfold Au;omega) rfl
 go_loopw [5,6] (fun v i wr=>∃ k g cap:Nat,k<=n/\i=Ao Ar k/\v=V g k cap/\wr.ownsRow w 5 1 (V g k cap) k ((xs.take k).map (Ao .u8))/\Ab w w wr) (fun _ i _=>n-(intOf i).toNat)
 case atStart=>exact⟨0,_,_,Bi _,rfl,rfl,ho1,(Az _ _).alloc (Ay _) _⟩
 case round=>
  obtain⟨k,g,cap,hk,rfl,rfl,a0,c0⟩:=hrel;clear ho1;by_cases hlt:k<n
  .have g0:k<s.size:=by omega
   have h0:k<t.size:=by omega
   have o0:(k:Int)<(n:Int):=by omega
   have r0:bits .xor .u8 (s[k].toNat:Int) (t[k].toNat:Int)=((s[k].toNat ^^^ t[k].toNat:Nat):Int):=u8_xor_nat _ _ (jCd _) (jCd _);have HE:H (xs.take (k+1)=xs.take k++[((s[k].toNat ^^^ t[k].toNat:Nat):Int)]):=by
    show _=_;rw[QY xs k (by rw[HL.out];exact hlt),HX.out,jIj s t k g0 h0]
   have j0:=c0.size;go_wp2_with fail
   go_region_held3 (fun _=>True) (trivial) ((refine step_append_lies _ rfl _ _ _ rfl w 5 i0 _ 1 1 Cq hi k0 m0 n0 rfl (by omega) (V g k cap) k _ rfl ((a0.alloc _).drew) ⟨wr.1.size,0,I⟩ 1 1 [Ao .u8 ((s[k].toNat ^^^ t[k].toNat:Nat):Int)] rfl rfl (Cf (cs:=#[Ao .u8 ((s[k].toNat ^^^ t[k].toNat:Nat):Int)]) (t:=5) (fr:=(0,0)) (Co wr _)) (by simp[Aq]) (by omega) (by unfold Au;omega) (by omega) (by simp;omega) (wr.1.size+1) (by simp) ?_;intro gg cap2 w1 b0 d0 f0 e0))
   all_goals
    have HO:H (w1.ownsRow w 5 1 (V gg (k+1) cap2) (k+1) ((xs.take (k+1)).map (Ao .u8))):=by
     rw[HE.out,Dv];first|exact b0|(rw[G0];exact b0)
    have hb':Ab w w w1:=((c0.alloc j0 _).drew).grown d0 (by simp;omega) (fun j hj=>(a0.lt j hj).1);clear b0 d0 a0 f0 e0;go_wp2
    go_roundw
    case rel=>exact⟨k+1,gg,cap2,by omega,by go_num,rfl,HO.out,hb'⟩
    case measure=>simp[intOf];omega
  .have e:k=n:=by omega
   subst e;rw[Dl (by rw[HL.out];omega)] at a0;have p0:=Dq (P:=prog) wr 22 5 Cq D9 g 0 k cap xs HL (fun i hi=>by
    rw[Bq,a0.cellAt i (by omega)];simp[HL.out,hi]) 9 C6
   go_wp2
   go_ret
   exact⟨xU (by rw[HX.out]),c0⟩
theorem jKp (s t:BA) (w:Ad) (hs:s.size<=1048576):CB 188 #[s,t] w (jLq s t):=by
 by_cases ha:s.size=t.size
 .refine(jHt s t w hs ha).mono ?_;rintro e w' ⟨rfl,hb⟩;exact⟨xU (by simp[jLq,ha]),hb⟩
 .have a0:((s.size:Int) !=(t.size:Int))=Aw:=by simp;omega
  go_enter func188,ntmps188
  go_wp2
  go_ret
  exact⟨xU (by simp[jLq,ha];rfl),Az _ _⟩
theorem qC {P:Program} (w:Ad) {k0:Array Oper} {e0:List Oper} {o:Oper} {a:Act} {Q:Exit->Act->Ad->Prop} (o0:o.guard=I) (s x:Operand) (t:TypeId)
  (ho:o.op=.call {callee:=.builtin .append,args:=#[s,x],argTypes:=#[t,t]})
  (base:Nat) (e:TypeId) (i:TypeInfo) (z:Aj) (size b0:Nat) (ht:P.underlying t=M (.slice e)) (hi:P.info? e=M i) (hz:i.zero=M z)
  (i0:i.size=size) (n0:i.bytes=b0) (r0:z.cells.size=size) (q0:0<size)
  (g0 n d0:Nat) (xs:List Aj) (hs:a.eval s=V g0 n d0) (j0:w.ownsRow base e size (V g0 n d0) n xs)
  (ad:Al) (m c:Nat) (a0:List Aj) (hx:a.eval x=V (M ad) m c) (hl:a0.length=m*size) (h0:∀ j u,a0[j]?=M u->w.cell? (ad.add j)=M u) (h1:∀ u∈a0,u.oneCell'=Aw)
  (m0:n+m<=Au) (c0:(n+m)*b0<=140737488355328) (f0:base<=w)
  (h:∀ g cap w',w'.ownsRow base e size (V (Addr.mk g 0 I) (n+m) cap) (n+m) (xs++a0)->w.grownBy w' (M g0)->wpList P k0 Q e0 (a.put o.dst (V (Addr.mk g 0 I) (n+m) cap)) w') :
  wpList P k0 Q (o::e0) a w:=by
 refine wpList_append_own w o0 s x t ho base e i z size b0 ht hi hz i0 n0 r0 q0 _ n xs hs j0 ad m c a0 hx hl h0 h1 m0 c0 f0 fun v' w' h2 h3 h4=>?_
 have p0:v'≠V I 0 0:=fun e=>by have:=h4.1 e;cases this.1
 rcases h2.2 with ⟨e,_⟩|⟨g,cap,s0,e,_⟩
 .exact Bo e p0
 .subst e;exact h g cap w' h2 h3
theorem xI {P:Program} (w:Ad) {j0:Array Oper} {o:Oper} {a:Act} {K:Act->Ad->Prop} {Q:Exit->Act->Ad->Prop} {E:Prop} (n0:o.guard=I) (s x:Operand) (t:TypeId)
  (ho:o.op=.call {callee:=.builtin .append,args:=#[s,x],argTypes:=#[t,t]})
  (base:Nat) (e:TypeId) (i:TypeInfo) (z:Aj) (size b0:Nat) (ht:P.underlying t=M (.slice e)) (hi:P.info? e=M i) (hz:i.zero=M z)
  (h0:i.size=size) (m0:i.bytes=b0) (q0:z.cells.size=size) (p0:0<size)
  (g0 n d0:Nat) (xs:List Aj) (hs:a.eval s=V g0 n d0) (i0:w.ownsRow base e size (V g0 n d0) n xs)
  (ad:Al) (m c:Nat) (a0:List Aj) (hx:a.eval x=V (M ad) m c) (hl:a0.length=m*size) (f0:∀ j u,a0[j]?=M u->w.cell? (ad.add j)=M u) (h1:∀ u∈a0,u.oneCell'=Aw)
  (k0:n+m<=Au) (c0:(n+m)*b0<=140737488355328) (e0:base<=w)
  (h:∀ g cap w',w'.ownsRow base e size (V (Addr.mk g 0 I) (n+m) cap) (n+m) (xs++a0)->w.grownBy w' (M g0)->K (a.put o.dst (V (Addr.mk g 0 I) (n+m) cap)) w') :
  if Region.wanted o (yielded j0 a.tmps)=Aw then Oper.wp P o a w K Q else E:=by
 have hw:Region.wanted o (yielded j0 a.tmps)=Aw:=by simp[Region.wanted,n0]
 rw[A6 hw];refine wp_append_own w s x t ho base e i z size b0 ht hi hz h0 m0 q0 p0 _ n xs hs i0 ad m c a0 hx hl f0 h1 k0 c0 e0 fun v' w' h2 h3 h4=>?_
 have o0:v'≠V I 0 0:=fun e=>by have:=h4.1 e;cases this.1
 rcases h2.2 with ⟨e,_⟩|⟨g,cap,r0,e,_⟩
 .exact Bo e o0
 .subst e;exact h g cap w' h2 h3
def tat (s:BA) (k:Nat):Nat:=(s.data.toList.getD k 0).toNat
theorem JA (s:BA) (k:Nat):tat s k<256:=jCd _
theorem XU (s:BA) (k:Nat) (h:k<s.size):tat s k=s[k].toNat:=by
 have h':k<s.data.toList.length:=by simpa using h
 simp only[tat,List.getD,Bj h',Er];rfl
theorem zL (s:BA) (k:Nat) (h:¬ k<s.size):tat s k=0:=by
 have h':s.data.toList.length<=k:=by simp at h |-;exact h
 simp[tat,List.getD,Bb h']
theorem jP9 {s u:BA} (h:s.size=u.size) (he:∀ k,tat s k=tat u k):s=u:=by
 apply ByteArray.ext
 apply Array.toList_inj.1
 apply Cn
 intro k;by_cases hk:k<s.size
 .have h1:k<s.data.toList.length:=by simpa using hk
  have h2:k<u.data.toList.length:=by rw[h] at hk;simpa using hk
  have e:=he k;simp only[tat,List.getD,Bj h1,Bj h2,Er] at e;rw[Bj h1,Bj h2,UInt8.toNat_inj.1 e]
 .have h1:s.data.toList.length<=k:=by simp at hk |-;exact hk
  have h2:u.data.toList.length<=k:=by rw[h] at hk;simp at hk |-;exact hk
  rw[Bb h1,Bb h2]
theorem jFg (xs:List Int) (k:Nat):tat (strOfNums xs) k=(xs.getD k 0).toNat % 256:=by
 simp only[tat,strOfNums_data,List.getD,Eb];cases xs[k]? with
 | none=>rfl
 | some v=>simp
theorem jCm {x y:BA} (h:x.size=y.size):(jLq x y).size=x.size:=by
 simp only[jLq];rw[A6 h,Fx,jFp x y h]
theorem jQe {x y:BA} (h:x.size=y.size) (k:Nat):tat (jLq x y) k=tat x k ^^^ tat y k:=by
 by_cases hk:k<x.size
 .have a0:k<y.size:=by omega
  simp only[jLq];rw[A6 h,jFg,jIj x y k hk a0,Cz,XU x k hk,XU y k a0];exact Dw (Gf.xor_lt (jCd _) (jCd _))
 .rw[zL x k hk,zL y k (by omega),zL _ k (by rw[jCm h];exact hk)];rfl
theorem QB {s:BA} {a:Int} (h:isB a=Aw):(vV s a).size=s.size:=by
 simp only[vV];rw[A6 h,Fx,jBa]
theorem jD6 (s:BA) {A:Nat} (hA:A<256) (k:Nat):tat (vV s (A:Int)) k=Gf.mul (tat s k) A:=by
 have h:=qV hA;by_cases hk:k<s.size
 .simp only[vV];rw[A6 h,jFg,Cz,jDv s A k hk,Cz,XU s k hk];exact Dw (Gf.mul_lt (jCd _) hA)
 .rw[zL s k hk,zL _ k (by rw[QB h];exact hk),Gf.zero_mul hA]
end Go.Proofs.YtcaejlalnjnifaaGreat
