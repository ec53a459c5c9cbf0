import Derived.Test.YtcaejlalnjnifaaGreatR2
import Derived.Test.YtcaejlalnjnifaaGreatR1
import Derived.WalkSpells
import Derived.WalkLawsBesides
import Derived.Test.YtcaejlalnjnifaaGreatR3
import Derived.Deep.RegionHeld3
import Derived.StillTailTactics
import Derived.Deep.Strs
set_option maxHeartbeats 8000000
set_option maxRecDepth 2000
open Go.Value renaming slice->V,pointer->Af,string->Ag,tuple->Ah,agg->Ai,int->Ao,oneCell'->Aq
open Option renaming none->I,some->M
open Go.RowKit renaming Hid->H,Below->Ab
open Go.Addr renaming mk->Q
open Go renaming undef->O,World->Ad,Value->Aj,Calls->Ak,Addr->Al,maxLen->Au
open Go.Obj renaming cells->J
open Go.Ending renaming returned->Ae
open ByteArray renaming empty->Ap
open Go.IntKind renaming i64->Ar
open Bool renaming false->Av,true->Aw
open Go.Proofs.Tryz
open Go.ChangeShapes Go.WideShapes Go.ChangeAt Go.RowKit
namespace Go.Proofs.YtcaejlalnjnifaaGreat
def jQ6:List Int:=(List.range 255).map fun i=>((Gf.ex i:Nat):Int)
def jSr:List Int:=(List.range 256).map fun i=>((Gf.lg i:Nat):Int)
def jJe:Array Aj:=(jQ6.map (Ao .u8)).toArray
def jRx:Array Aj:=(jSr.map (Ao .u8)).toArray
theorem jJf {i:Nat} (h:i<255):jJe[i]?=M (Ao .u8 ((Gf.ex i:Nat):Int)):=by
 unfold jJe jQ6;simp[h]
theorem jP3 {i:Nat} (h:i<256):jRx[i]?=M (Ao .u8 ((Gf.lg i:Nat):Int)):=by
 unfold jRx jSr;simp[h]
set_option maxRecDepth 100000 in
theorem jM4 (n:Int) (r:Nat) (w:Ad) (hr:r<255) (h1:n.tmod 255=(r:Int)):Ak prog 248 #[n] w fun e w'=>e=Ae (Ao .u8 (Gf.ex r:Nat))/\w'=w.alloc (J jJe 277):=by
 have hc:(w.alloc (J jJe 277)).cell? (Q w r I)=M (Ao .u8 (Gf.ex r:Nat)):=by
  rw[cell_of_row _ _ _ _ _ _ (Cq w _)];exact jJf hr
 go_enter func248,ntmps248
 iterate 11 go_step
 refine JF rfl rfl rfl 277 252 255 _ _ _ .u8 jQ6 rfl rfl rfl (by kernel_rfl) (by kernel_rfl) (by kernel_rfl) (by kernel_rfl) (by kernel_rfl) 5 3 rfl rfl rfl rfl rfl (by decide) (by simp) (by simp) ?_;rw[show (jQ6.map (Ao .u8)).toArray=jJe from rfl];refine wpList_frame (a':={tmps:=#[Ao Ar n,O,Ao .u8 0,Af (Q w 0 I),O,Ai jJe,O,O,O,O,O,O,O,O,O],defers:=[]}) (by kernel_rfl) ?_;refine wpList_nil ?_;go_wp2
 go_ret
 exact⟨rfl,rfl⟩
set_option maxRecDepth 100000 in
theorem jM3 (n:Int) (r:Nat) (w:Ad) (hr:r<255) (h1:n.tmod 255=(r:Int)-255):Ak prog 248 #[n] w fun e w'=>e=Ae (Ao .u8 (Gf.ex r:Nat))/\w'=w.alloc (J jJe 277):=by
 have hc:(w.alloc (J jJe 277)).cell? (Q w r I)=M (Ao .u8 (Gf.ex r:Nat)):=by
  rw[cell_of_row _ _ _ _ _ _ (Cq w _)];exact jJf hr
 go_enter func248,ntmps248
 iterate 11 go_step
 refine JF rfl rfl rfl 277 252 255 _ _ _ .u8 jQ6 rfl rfl rfl (by kernel_rfl) (by kernel_rfl) (by kernel_rfl) (by kernel_rfl) (by kernel_rfl) 5 3 rfl rfl rfl rfl rfl (by decide) (by simp) (by simp) ?_;rw[show (jQ6.map (Ao .u8)).toArray=jJe from rfl];refine wpList_frame (a':={tmps:=#[Ao Ar n,O,Ao .u8 0,Af (Q w 0 I),O,Ai jJe,O,O,O,O,O,O,O,O,O],defers:=[]}) (by kernel_rfl) ?_;refine wpList_nil ?_;go_wp2
 go_ret
 exact⟨rfl,rfl⟩
theorem jGn (n:Int) (w:Ad):CB 248 #[n] w (Ao .u8 (Gf.ex (n % 255).toNat:Nat)):=by
 have hr:(n % 255).toNat<255:=by omega
 have hb:Ab w w (w.alloc (J jJe 277)):=(Az _ _).alloc (Ay _) _;have ht:=Int.tmod_eq_emod (a:=n) (b:=255);by_cases h:0<=n\/(255:Int)∣n
 .rw[A6 h] at ht;refine(jM4 n (n % 255).toNat w hr (by omega)).mono ?_;rintro e w' ⟨rfl,rfl⟩;exact⟨rfl,hb⟩
 .rw[A5 h] at ht;refine(jM3 n (n % 255).toNat w hr (by simp at ht;omega)).mono ?_;rintro e w' ⟨rfl,rfl⟩;exact⟨rfl,hb⟩
set_option maxRecDepth 100000 in
theorem jEx (r:Nat) (w:Ad) (hr:r<256):CB 249 #[Ao .u8 (r:Int)] w (Ao Ar (Gf.lg r:Nat)):=by
 have hc:(w.alloc (J jRx 278)).cell? (Q w r I)=M (Ao .u8 (Gf.lg r:Nat)):=by
  rw[cell_of_row _ _ _ _ _ _ (Cq w _)];exact jP3 hr
 have hl:=Gf.lg_lt' r;go_enter func249,ntmps249
 iterate 11 go_step
 refine JF rfl rfl rfl 278 5 256 _ _ _ .u8 jSr rfl rfl rfl (by kernel_rfl) (by kernel_rfl) (by kernel_rfl) (by kernel_rfl) (by kernel_rfl) 4 3 rfl rfl rfl rfl rfl (by decide) (by simp) (by simp) ?_;rw[show (jSr.map (Ao .u8)).toArray=jRx from rfl];refine wpList_frame (a':={tmps:=#[Ao .u8 (r:Int),O,Ao Ar 0,Af (Q w 0 I),Ai jRx,O,O,O,O],defers:=[]}) (by kernel_rfl) ?_;refine wpList_nil ?_;go_wp2
 go_ret
 exact⟨rfl,(Az _ _).alloc (Ay _) _⟩
theorem jS {k:IntKind} {a b:Int} (h:a=b):Ending.returned (Ao k a)=Ae (Ao k b):=by rw[h]
theorem jRd {a b c d:Ad} (h1:Ab a a b) (h2:Ab b b c) (h3:Ab c c d):Ab a a d:=
 (h1.trans (h2.mono h1.size)).trans (h3.mono (By h1.size h2.size))
theorem jA {a b c:Ad} (h1:Ab a a b) (h2:Ab b b c):Ab a a c:=
 h1.trans (h2.mono h1.size)
theorem jT {a b:Bool} (h:a=b):Ending.returned a=Ae b:=by rw[h]
theorem jCk (a b:Nat) (ha:a<4294967296) (hb:b<4294967296):bits .xor Ar (a:Int) (b:Int)=((a ^^^ b:Nat):Int):=by
 have hx:a ^^^ b<2 ^ 32:=Nat.xor_lt_two_pow (by omega) (by omega);show IntKind.i64.wrap ((BitVec.ofInt 64 (a:Int) ^^^ BitVec.ofInt 64 (b:Int)).toNat:Int)=_;rw[BitVec.toNat_xor,ofInt_u64 a (by omega),ofInt_u64 b (by omega),A8];omega
def isB (a:Int):Bool:=decide (0<=a/\a<=255)
theorem zV {a:Int} (h:isB a=Aw):∃ n:Nat,n<256/\a=(n:Int):=by
 simp[isB] at h;exact⟨a.toNat,by omega,by omega⟩
theorem qW {n:Nat} (h:n<256):isB (n:Int)=Aw:=by simp[isB];omega
def jQ8 (a n:Int):Int:=if isB a=Aw/\0<=n/\n<=1000000 then ((Gf.gpow a.toNat n.toNat:Nat):Int) else -1
def jQ7 (a:Int):Int:=if 1<=a/\a<=255 then ((Gf.inv a.toNat:Nat):Int) else -1
theorem jHr (a:Int) (w:Ad):CS 205 #[a] w (isB a):=by
 go_enter func205,ntmps205
 go_wp2
 .go_ret
  exact⟨jT (by simp[isB, *]),rfl⟩
 .go_ret
  exact⟨jT (by simp[isB];omega),rfl⟩
theorem jGm (a b:Nat) (w:Ad) (ha:a<256) (hb:b<256):CS 237 #[Ao .u8 (a:Int),Ao .u8 (b:Int)] w (Ao .u8 ((a ^^^ b:Nat):Int)):=by
 have hx:=u8_xor_nat a b ha hb;go_enter func237,ntmps237
 go_wp2
 go_ret
 exact⟨rfl,rfl⟩
theorem jLt (a b:Nat) (w:Ad) (ha:a<256) (hb:b<256):CB 250 #[Ao .u8 (a:Int),Ao .u8 (b:Int)] w (Ao .u8 (Gf.mul a b:Nat)):=by
 by_cases a0:a=0
 .subst a0;have hm:=Gf.zero_mul hb;go_enter func250,ntmps250
  go_wp2
  go_ret
  exact⟨jS (by rw[hm];rfl),Az _ _⟩
 .have f0:((a:Int)==0)=Av:=by simp;omega
  by_cases b0:b=0
  .subst b0;have hm:=Gf.mul_zero ha;go_enter func250,ntmps250
   go_wp2
   go_ret
   exact⟨jS (by rw[hm];rfl),Az _ _⟩
  .have g0:((b:Int)==0)=Av:=by simp;omega
   have hm:=hd (Gf.mul_nz ha hb a0 b0);have h0:=Gf.lg_lt' a;have i0:=Gf.lg_lt' b;go_enter func250,ntmps250
   go_wp2_with fail
   refine(jEx a _ ha).mono ?_;rintro e w1 ⟨rfl,c0⟩;go_wp2_with fail
   refine(jEx b _ hb).mono ?_;rintro e w2 ⟨rfl,d0⟩;go_wp2_with fail
   refine(jGn _ _).mono ?_;rintro e w3 ⟨rfl,e0⟩;go_wp2
   go_ret
   exact⟨jS (by rw[hm.out,show (((Gf.lg a:Nat):Int)+((Gf.lg b:Nat):Int)) % 255=(((Gf.lg a+Gf.lg b) % 255:Nat):Int) by omega,Cy]),jRd c0 d0 e0⟩
theorem jEu (a:Nat) (w:Ad) (ha:a<256):CB 238 #[Ao .u8 (a:Int)] w (Ao .u8 (Gf.inv a:Nat)):=by
 have c0:=Gf.lg_lt' a;go_enter func238,ntmps238
 go_wp2_with fail
 refine(jEx a _ ha).mono ?_;rintro e w1 ⟨rfl,a0⟩;go_wp2_with fail
 refine(jGn _ _).mono ?_;rintro e w2 ⟨rfl,b0⟩;go_wp2
 go_ret
 refine⟨jS ?_,jA a0 b0⟩;unfold Gf.inv;congr 2
 omega
def inB (x a b:Int):Bool:=decide (a<=x/\x<=b)
theorem jN (x a b:Int) (w:Ad):CS 43 #[x,a,b] w (inB x a b):=by
 go_enter func43,ntmps43
 go_wp2
 .go_ret
  exact⟨jT (by simp[inB, *]),rfl⟩
 .go_ret
  exact⟨jT (by simp[inB];omega),rfl⟩
theorem QB (a:Int) (w:Ad):CS 182 #[a] w (isB a):=by
 go_enter func182,ntmps182
 go_wp2_with fail
 refine(jN _ _ _ _).mono ?_;rintro e w1 ⟨rfl,rfl⟩;go_wp2
 go_ret
 exact⟨jT rfl,rfl⟩
theorem ZJ (k A B X:Nat):Gf.pea (k+1) A B X=Gf.pea k (Gf.dbl A) (B / 2) (if B % 2=1 then X ^^^ A else X):=rfl
theorem ZM (a b:Nat) (w:Ad) (ha:a<256) (hb:b<256):CS 208 #[(a:Int),(b:Int)] w (Ao Ar (Gf.mul a b:Nat)):=by
 have ia:=qW ha;have ib:=qW hb;go_enter func208,ntmps208
 go_wp2_with (go_at_call 182;refine(QB _ _).mono ?_;rintro e w' ⟨rfl,rfl⟩)
 go_loop [0,1,5] (fun p q r=>∃ A B X k:Nat,A<256/\X<256/\k<=8/\B<2 ^ k/\H (Gf.pea k A B X=Gf.mul a b)/\p=Ao Ar A/\q=Ao Ar B/\r=Ao Ar X) (fun _ q _=>(intOf q).toNat)
 case atStart=>exact⟨a,b,0,8,ha,by omega,by omega,by omega,rfl,rfl,rfl,rfl⟩
 case round=>
  obtain⟨A,B,X,k,hA,hX,hk,hB,HP,rfl,rfl,rfl⟩:=hrel;have d0:=Bu hB (Nat.pow_le_pow_right (by omega) hk);by_cases hz:B=0
  .subst hz;go_wp2
   go_ret
   exact⟨jS (by rw[<-HP.out,Gf.pea_zero]),rfl⟩
  .obtain⟨j,rfl⟩:∃ j,k=j+1:=⟨k-1,by
    rcases Fy k with h|h
    .subst h;simp at hB;omega
    .omega⟩
   have c0:0<(B:Int):=by omega
   have hB2:H (B / 2<2 ^ j):=by
    have:B<2 ^ j*2:=by rw[<-Nat.pow_succ];exact hB
    show B / 2<2 ^ j;omega
   have e0:=jCk X A (by omega) (by omega);have f0:bits .xor Ar (2*(A:Int)) 285=(((2*A) ^^^ 285:Nat):Int):=by
    have:=jCk (2*A) 285 (by omega) (by omega)
    simpa using this
   have hlt:=hd (Gf.xor_lt hX hA);have hdl:=hd (Gf.dbl_lt hA);by_cases ho:B % 2=1
   .have b0:((B:Int) % 2==1)=Aw:=by simp;omega
    by_cases hg:255<2*A
    .have a0:255<2*(A:Int):=by omega
     have hd:H (Gf.dbl A=(2*A) ^^^ 285):=by show Gf.dbl A=_;simp[Gf.dbl,hg]
     go_wp2
     go_round
     case rel=>exact⟨Gf.dbl A,B / 2,X ^^^ A,j,hdl,hlt,by omega,hB2.out,by have h:=HP.out;rw[ZJ,A6 ho] at h;exact h,by rw[hd.out],by go_num,rfl⟩
     case measure=>simp[intOf];omega
    .have a0:¬ 255<2*(A:Int):=by omega
     have hd:H (Gf.dbl A=2*A):=by show Gf.dbl A=_;simp[Gf.dbl,hg]
     go_wp2
     go_round
     case rel=>exact⟨Gf.dbl A,B / 2,X ^^^ A,j,hdl,hlt,by omega,hB2.out,by have h:=HP.out;rw[ZJ,A6 ho] at h;exact h,by rw[hd.out];go_num,by go_num,rfl⟩
     case measure=>simp[intOf];omega
   .have b0:((B:Int) % 2==1)=Av:=by simp;omega
    by_cases hg:255<2*A
    .have a0:255<2*(A:Int):=by omega
     have hd:H (Gf.dbl A=(2*A) ^^^ 285):=by show Gf.dbl A=_;simp[Gf.dbl,hg]
     go_wp2
     go_round
     case rel=>exact⟨Gf.dbl A,B / 2,X,j,hdl,hX,by omega,hB2.out,by have h:=HP.out;rw[ZJ,A5 ho] at h;exact h,by rw[hd.out],by go_num,rfl⟩
     case measure=>simp[intOf];omega
    .have a0:¬ 255<2*(A:Int):=by omega
     have hd:H (Gf.dbl A=2*A):=by show Gf.dbl A=_;simp[Gf.dbl,hg]
     go_wp2
     go_round
     case rel=>exact⟨Gf.dbl A,B / 2,X,j,hdl,hX,by omega,hB2.out,by have h:=HP.out;rw[ZJ,A5 ho] at h;exact h,by rw[hd.out];go_num,by go_num,rfl⟩
     case measure=>simp[intOf];omega
theorem jNg (a n:Nat) (w:Ad) (ha:a<256) (hn:n<=1000000):CS 207 #[(a:Int),(n:Int)] w (Ao Ar (Gf.gpow a n:Nat)):=by
 have ia:=qW ha;have ib:inB (n:Int) 0 1000000=Aw:=by simp[inB];omega
 go_enter func207,ntmps207
 go_wp2_with (first|(go_at_call 182;refine(QB _ _).mono ?_;rintro e w' ⟨rfl,rfl⟩)|(go_at_call 43;refine(jN _ _ _ _).mono ?_;rintro e w' ⟨rfl,rfl⟩))
 go_loop [0,1,5] (fun p q r=>∃ A N X:Nat,A<256/\X<256/\N<=1000000/\H (Gf.mul X (Gf.gpow A N)=Gf.gpow a n)/\p=Ao Ar A/\q=Ao Ar N/\r=Ao Ar X) (fun _ q _=>(intOf q).toNat)
 case atStart=>exact⟨a,n,1,ha,by omega,hn,Gf.one_mul (Gf.gpow_lt _ _),rfl,rfl,rfl⟩
 case round=>
  obtain⟨A,N,X,hA,hX,hN,HP,rfl,rfl,rfl⟩:=hrel;by_cases hz:N=0
  .subst hz;go_wp2
   go_ret
   exact⟨jS (by rw[<-HP.out,Gf.gpow_zero,Gf.mul_one hX]),rfl⟩
  .have b0:0<(N:Int):=by omega
   have hr:H (Gf.mul (if N % 2=1 then Gf.mul X A else X) (Gf.gpow (Gf.mul A A) (N / 2))=Gf.gpow a n):=by
    show _=_;rw[Gf.gpow_round hA hX (by omega)];exact HP.out
   have h1:=hd (Gf.mul_lt hA hA);have h2:=hd (Gf.mul_lt hX hA);by_cases ho:N % 2=1
   .have a0:((N:Int) % 2==1)=Aw:=by simp;omega
    go_wp2_with fail
    refine(ZM X A _ hX hA).mono ?_;rintro e w1 ⟨rfl,rfl⟩;go_wp2_with fail
    refine(ZM A A _ hA hA).mono ?_;rintro e w1 ⟨rfl,rfl⟩;go_wp2
    go_round
    case rel=>exact⟨Gf.mul A A,N / 2,Gf.mul X A,h1,h2,by omega,by have h:=hr.out;rw[A6 ho] at h;exact h,rfl,by go_num,rfl⟩
    case measure=>simp[intOf];omega
   .have a0:((N:Int) % 2==1)=Av:=by simp;omega
    go_wp2_with fail
    refine(ZM A A _ hA hA).mono ?_;rintro e w1 ⟨rfl,rfl⟩;go_wp2
    go_round
    case rel=>exact⟨Gf.mul A A,N / 2,X,h1,hX,by omega,by have h:=hr.out;rw[A5 ho] at h;exact h,rfl,by go_num,rfl⟩
    case measure=>simp[intOf];omega
theorem jNf (a n:Int) (w:Ad):CS 207 #[a,n] w (jQ8 a n):=by
 by_cases ha:isB a=Aw
 .by_cases hb:inB n 0 1000000=Aw
  .obtain⟨A,hA,rfl⟩:=zV ha;simp[inB] at hb;obtain⟨M,rfl⟩:=Dk hb.1;refine(jNg A M w hA (by omega)).mono ?_;rintro e w' ⟨rfl,rfl⟩;exact⟨jS (by simp only[jQ8];rw[A6 ⟨ha,by omega,by omega⟩];simp),rfl⟩
  .have c0:inB n 0 1000000=Av:=by simpa using hb
   have a0:¬ (0<=n/\n<=1000000):=by simpa [inB] using hb
   go_enter func207,ntmps207
   go_wp2_with (first|(go_at_call 182;refine(QB _ _).mono ?_;rintro e w' ⟨rfl,rfl⟩)|(go_at_call 43;refine(jN _ _ _ _).mono ?_;rintro e w' ⟨rfl,rfl⟩))
   go_ret
   exact⟨jS (by simp only[jQ8];rw[A5 (fun h=>a0 h.2)]),rfl⟩
 .have b0:isB a=Av:=by simpa using ha
  go_enter func207,ntmps207
  go_wp2_with (first|(go_at_call 182;refine(QB _ _).mono ?_;rintro e w' ⟨rfl,rfl⟩)|(go_at_call 43;refine(jN _ _ _ _).mono ?_;rintro e w' ⟨rfl,rfl⟩))
  go_ret
  exact⟨jS (by simp[jQ8,ha]),rfl⟩
theorem jNe (a:Int) (w:Ad):CS 186 #[a] w (jQ7 a):=by
 by_cases h:1<=a/\a<=255
 .have hi:inB a 1 255=Aw:=by simp[inB,h]
  have hv:H (jQ8 a 254=jQ7 a):=by
   show _=_;simp only[jQ8,jQ7];rw[A6 ⟨by simp[isB];omega,by omega,by omega⟩,A6 h,show Int.toNat 254=254 from rfl,Gf.gpow_inv (by omega) (by omega)]
  go_enter func186,ntmps186
  go_wp2_with (first|(go_at_call 43;refine(jN _ _ _ _).mono ?_;rintro e w' ⟨rfl,rfl⟩)|(go_at_call 207;refine(jNf _ _ _).mono ?_;rintro e w' ⟨rfl,rfl⟩))
  go_ret
  exact⟨jS hv,rfl⟩
 .have hi:inB a 1 255=Av:=by simp[inB];omega
  go_enter func186,ntmps186
  go_wp2_with (go_at_call 43;refine(jN _ _ _ _).mono ?_;rintro e w' ⟨rfl,rfl⟩)
  go_ret
  exact⟨jS (by simp only[jQ7];rw[A5 h]),rfl⟩
section
open Gs (U rolI)
theorem jH4 (x:BitVec 64) (n:Int) (w:Ad):CS 256 #[Ao .u64 (U x),n] w (Ao .u64 (U (rolI x n))):=by
 obtain⟨s,HS⟩:∃ s:Nat,H (s=(n % 64).toNat):=⟨_,rfl⟩;have a0:s<64:=by have:=HS.out;omega
 have ha:bits .and .u64 (IntKind.u64.wrap n) 63=(s:Int):=by
  obtain⟨m,hm⟩:∃ m:Nat,IntKind.u64.wrap n=(m:Int):=⟨(IntKind.u64.wrap n).toNat,by rw[Fq];omega⟩;have b0:=hm;rw[Fq] at b0;rw[hm];have:=bits_and_u64_nat m 63 (by omega) (by omega)
  rw[show ((63:Nat):Int)=63 from rfl] at this;rw[this,show (63:Nat)=2 ^ 6-1 from rfl,Nat.and_two_pow_sub_one_eq_mod];have:=HS.out
  omega
 go_enter func256,ntmps256
 go_wp2
 go_ret
 refine⟨jS ?_,rfl⟩;rw[ Gs.U_shl,Gs.U_shr,Gs.U_or,Gs.rol_shifts _ _ a0,HS.out];rfl
theorem jM6 (x:BitVec 64) (n:Int) (w:Ad):CS 255 #[Ao .u64 (U x),n] w (Ao .u64 (U (rolI x n))):=by
 go_enter func255,ntmps255
 go_wp2_with fail
 refine(jH4 x n _).mono ?_;rintro e w' ⟨rfl,hw⟩;obtain rfl:=hw.symm;go_wp2
 go_ret
 exact⟨rfl,rfl⟩
theorem jO6 (n:Int):n.tmod 64=n % 64\/n.tmod 64=n % 64-64/\n % 64≠0/\n<0:=by
 rw[Int.tmod_eq_emod];split
 .omega
 .simp only[show (64:Int).natAbs=64 from rfl];omega
theorem shl1 (x:BitVec 64):IntKind.u64.wrap (U x*2)=U (x <<< 1):=Gs.U_shl x 1
theorem jTb (x:BitVec 64):U x / (9223372036854775808:Int)=U (x >>> 63):=Gs.U_shr x 63
theorem vS (x:BitVec 64) (n:Int) (w:Ad):CS 212 #[Ao .u64 (U x),n] w (Ao .u64 (U (rolI x n))):=by
 obtain⟨r,HR⟩:∃ r:Nat,H (r=(n % 64).toNat):=⟨_,rfl⟩;have b0:r<64:=by have:=HR.out;omega
 by_cases hn:n.tmod 64<0
 have hr:n.tmod 64+64=(r:Int):=by have:=HR.out;have:=jO6 n;omega
 rotate_left;have hr:n.tmod 64=(r:Int):=by have:=HR.out;have:=jO6 n;omega
 rotate_left;all_goals
  go_enter func212,ntmps212
  go_wp2
  go_loop [0,6] (fun v i=>∃ k:Nat,k<=r/\i=Ao Ar k/\v=Ao .u64 (U (Gs.rol x k))) (fun _ i=>r-(intOf i).toNat)
  case atStart=>exact⟨0,Bi _,rfl,by rw[Gs.rol_zero]⟩
  case round=>
   obtain⟨k,hk,rfl,rfl⟩:=hrel;by_cases hlt:k<r
   .have a0:(k:Int)<(r:Int):=by omega
    go_wp2
    exact⟨⟨k+1,by omega,by go_num,by rw[shl1,jTb,Gs.U_or,Gs.rol_one]⟩,by simp[intOf];omega⟩
   .have e:k=r:=by omega
    subst e;go_wp2
    go_ret
    have e2:rolI x n=Gs.rol x k:=by unfold rolI;rw[<-HR.out]
    exact⟨by rw[e2];rfl,rfl⟩
end
def jH (w:Ad) (a:OA) (n:Nat) (zs:List Int):Prop:=
 zs.length=n/\∀ i,i<n->∃ b off,a=M (Q b off I)/\w.cell? (Q b (off+i) I)=M (Ao Ar (zs.getD i 0))
theorem jH.below {w w':Ad} {a:OA} {n:Nat} {zs:List Int} (h:jH w a n zs) (hb:Ab w w w'):jH w' a n zs:=by
 refine⟨h.1,fun i hi=>?_⟩;obtain⟨b,off,e,hc⟩:=h.2 i hi;exact⟨b,off,e,(hb.cell (p:=Q b (off+i) I) (A7 hc)).trans hc⟩
theorem jH.some {w:Ad} {a:OA} {n:Nat} {zs:List Int} (h:jH w a n zs) (hn:0<n):∃ b off,a=M (Q b off I)/\∀ i,i<n->w.cell? (Q b (off+i) I)=.some (Ao Ar (zs.getD i 0)):=by
 obtain⟨b,off,e,_⟩:=h.2 0 hn;refine⟨b,off,e,fun i hi=>?_⟩;obtain⟨b',a0,e',hc⟩:=h.2 i hi;rw[e] at e';simp at e';obtain⟨rfl,rfl⟩:=e';exact hc
theorem jPd.ints {w:Ad} {a:OA} {len cap:Nat} {zs:List Int} (h:jPd Ar w a len cap zs):len<=cap/\jH w a len (zs.take len)/\∀ n∈zs.take len,(Lit.int Ar n).wf=Aw:=by
 rcases h with ⟨rfl,rfl,rfl,rfl⟩|⟨x,rfl,hl,hm,hz,a0,d0⟩
 .exact⟨Ay _,⟨rfl,fun i hi=>Bo hi (by omega)⟩,by simp⟩
 .refine⟨hl,⟨by rw[Cu];omega,fun i hi=>?_⟩,fun n hn=>d0 n (List.mem_of_mem_take hn)⟩;obtain⟨b,off,c0⟩:=x;have hc:=a0 i (by omega);have b0:c0=I:=by simpa [Addr.add] using World.cell?_spot (a0 0 (by omega))
  subst b0;refine⟨b,off,rfl,?_⟩;have e:(zs.take len).getD i 0=zs.getD i 0:=by simp[hi]
  rw[e];have ea:((Q b off I):Al).add i=(Q b (off+i) I):=by unfold Addr.add;split <;> simp_all
  rw[<-ea];exact hc
theorem ownsRow.ints {w:Ad} {B E g n cap:Nat} {zs:List Int} (h:w.ownsRow B E 1 (V g n cap) n (zs.map (Ao Ar))):jH w g n zs:=by
 have hl:zs.length=n:=by simpa using h.1
 refine⟨hl,fun i hi=>⟨g,0,rfl,?_⟩⟩;rw[Bt,h.cellAt i (by omega)];simp[hl,hi]
theorem jE {w w':Ad} {B e size n:Nat} {v:Aj} {xs:List Aj} (h:w.ownsRow B e size v n xs) (hb:Ab w w w'):w'.ownsRow B e size v n xs:=by
 refine⟨h.1,?_⟩;rcases h.2 with h'|⟨g,cap,a0,h1,h2,h3,h4⟩
 .exact .inl h'
 .refine .inr ⟨g,cap,a0,h1,h2,?_,h4⟩;rw[hb.block g (Bz.1 h3).1];exact h3
theorem XC (xs:List Int) (k:Nat) (h:k<xs.length):xs.take (k+1)=xs.take k++[xs.getD k 0]:=by
 rw[List.take_succ_eq_append_getElem h];simp[h]
theorem Tryz.infoByte:(Tryz.prog.info? 5).map (fun i=>(i.zero,i.size,i.bytes))=M (M (Ao .u8 0),1,1):=by kernel_rfl
theorem Tryz.infoInt:(Tryz.prog.info? 3).map (fun i=>(i.zero,i.size,i.bytes))=M (M (Ao Ar 0),1,8):=by kernel_rfl
theorem jAy (d:IntKind) (zs:List Int) (n k:Nat) (hn:zs.length=n) (hk:k<n):((zs.take k++List.replicate (n-k) 0).map (Ao d)).set k (Ao d (zs.getD k 0))=(zs.take (k+1)++List.replicate (n-(k+1)) 0).map (Ao d):=by
 apply Co
 intro j;simp only[Ey,Eb,List.getElem?_append,Cu,List.length_map,Fb,List.length_replicate,List.getElem?_take,List.getElem?_replicate];by_cases h1:k=j
 .subst h1;simp[hn,hk,show min k n=k by omega,show min (k+1) n=k+1 by omega,show k<k+(n-k) by omega]
 .by_cases h2:j<k
  .simp[h1,h2,hn,show j<min k n by omega,show j<min (k+1) n by omega,show j<k+1 by omega]
  .by_cases h3:j<n
   .simp[h1,hn,show ¬ j<min k n by omega,show ¬ j<min (k+1) n by omega,show j-min k n<n-k by omega,show j-min (k+1) n<n-(k+1) by omega]
   .simp[h1,hn,show ¬ j<min k n by omega,show ¬ j<min (k+1) n by omega,show ¬ j-min k n<n-k by omega,show ¬ j-min (k+1) n<n-(k+1) by omega]
theorem XP (a:OA) (n cap:Nat) (zs:List Int) (w:Ad) (h:jH w a n zs) (hn:n<=1048576):Ak prog 84 #[V a n cap] w fun e w'=>e=Ae (V (Q w 0 I) n n)/\w'.ownsRow w 3 1 (V (Q w 0 I) n n) n (zs.map (Ao Ar))/\Ab w w w':=by
 obtain⟨i0,hi,g0,h0,j0⟩:=Cg Tryz.infoInt;obtain⟨e0,b0⟩:=h;have HL:=hd e0;clear e0;go_enter func84,ntmps84
 go_wp2_with (at_make;refine Cv _ rfl _ _ 40 rfl w 3 i0 () 1 Ec hi g0 h0 Ar Ar _ _ n rfl rfl rfl rfl (by rw[j0];omega) (by unfold Au;omega) (Ay _) ?_;intro w1 a0 d0)
 have hb1:Ab w w w1:=(Az _ _).grown d0 (Ay _) (by simp);have ho1:w1.ownsRow w 3 1 (V (Q w 0 I) n n) n ((zs.take 0++List.replicate (n-0) 0).map (Ao Ar)):=by
  simpa [Value.cells,Do] using a0
 clear a0 d0;go_loopw [4] (fun i wr=>∃ k:Nat,k<=n/\i=Ao Ar k/\wr.ownsRow w 3 1 (V (Q w 0 I) n n) n ((zs.take k++List.replicate (n-k) 0).map (Ao Ar))/\Ab w w wr) (fun i _=>n-(intOf i).toNat)
 case atStart=>exact⟨0,Bi _,rfl,ho1,hb1⟩
 case round=>
  obtain⟨k,hk,rfl,a0,c0⟩:=hrel;clear ho1 hb1;by_cases hlt:k<n
  .obtain⟨b,off,rfl,hc⟩:=b0 k hlt;have m0:wr.cell? (Q b (off+k) I)=M (Ao Ar (zs.getD k 0)):=(c0.cell (p:=Q b (off+k) I) (A7 hc)).trans hc;obtain⟨old,k0⟩:∃ v,wr.cell? (Q w k I)=M v:=by
    rw[a0.cellAt k (by omega)];exact⟨_,Bj (by rw[a0.1];omega)⟩
   have n0:=a0.frozenAt k;have f0:=a0.stored k (zs.getD k 0);rw[jAy Ar zs n k HL.out hlt] at f0;have hne:Ab w w (wr.setCell (Q w k I) (zs.getD k 0)):=c0.setCell (Ay _) _;have HO:H _:=f0.1;clear f0 a0 b0 hc;go_wp2
   go_roundw
   case rel=>exact⟨k+1,by omega,by go_num,HO.out,hne⟩
   case measure=>simp[intOf];omega
  .have e:k=n:=by omega
   subst e;go_wp2
   go_ret
   refine⟨rfl,?_,c0⟩;have e2:zs.take k++List.replicate (k-k) 0=zs:=by rw[Dl (by rw[HL.out];omega)];simp
   rw[e2] at a0;exact a0
theorem JW (a b:OA) (n ca cb:Nat) (zs:List Int) (w:Ad) (ha:jH w a n zs) (hb:jH w b n zs) (hn:n<=1048576):CB 88 #[V a n ca,V b n cb] w Aw:=by
 go_enter func88,ntmps88
 go_wp2
 go_loopw [5] (fun i wr=>∃ k:Nat,k<=n/\i=Ao Ar k/\Ab w w wr) (fun i _=>n-(intOf i).toNat)
 case atStart=>exact⟨0,Bi _,rfl,Az _ _⟩
 case round=>
  obtain⟨k,hk,rfl,hbel⟩:=hrel;have a0:=ha.below hbel;have b0:=hb.below hbel;clear ha hb;by_cases hlt:k<n
  .obtain⟨ba,oa,rfl,c0⟩:=a0.2 k hlt;obtain⟨bb,ob,rfl,d0⟩:=b0.2 k hlt;clear a0 b0;obtain⟨x,HX⟩:∃ x,x=zs.getD k 0:=⟨_,rfl⟩;rw[<-HX] at c0 d0;clear HX;go_wp2
   go_quiet (fail)
   go_wp2
   go_roundw
   case rel=>exact⟨k+1,by omega,by go_num,Cz hbel _⟩
   case measure=>simp[intOf];omega
  .go_wp2
   go_ret
   exact⟨rfl,hbel⟩
theorem jBq {a b c:Ad} {row:Option Nat} (h:a.grownBy b row) (k:b.grownBy c row):a.grownBy c row:=
 ⟨k.os.trans h.os,k.tape.trans h.tape,k.output.trans h.output,By h.size k.size,fun j hj hn=>(k.block j (Bu hj h.size) hn).trans (h.block j hj hn)⟩
section
open Gs (U rolI V4 mx)
abbrev A4 (v:V4):Aj:=Ai #[Ao .u64 (U v.a),Ao .u64 (U v.b),Ao .u64 (U v.c),Ao .u64 (U v.d)]
theorem xW {B:Nat} {a w:Ad} (h:Ab B a w) (n:Nat):Ab B a (w.drewN n):=⟨h.os,h.tape,h.output,h.size,h.block⟩
theorem jP8 (v:V4) (w:Ad):CB 254 #[A4 v] w (A4 (mx v)):=by
 obtain⟨a,b,c,d⟩:=v;have a0:=Gs.U_add;have b0:=Gs.U_xor;go_enter func254,ntmps254
 go_wp2_with fail
 go_quiet (fail)
 go_wp2_with (go_at_call 255;refine(jM6 _ _ _).mono ?_;rintro e w' ⟨rfl,hw⟩;obtain rfl:=hw.symm)
 refine B7 (v:=A4 (mx ⟨a,b,c,d⟩)) (by simp[results,results254,go_sem,mx]) rfl ⟨rfl,?_⟩;refine Bn (Bn (Bn (Bn ?_ (by simp) _) (by simp) _) (by simp) _) (by simp) _;exact xW (((Az _ _).alloc (Ay _) _).alloc (by simp) _) nq
theorem Tryz.info4:(Tryz.prog.info? 231).map (·.size)=M 4:=by kernel_rfl
theorem Tryz.mixed:Tryz.prog.follows .mixedOrders=Aw:=by kernel_rfl
abbrev C4 (v:V4):Array Aj:=#[Ao .u64 (U v.a),Ao .u64 (U v.b),Ao .u64 (U v.c),Ao .u64 (U v.d)]
structure QI (w0 w:Ad) (g:Nat) (v:V4):Prop where
 row:Row w g 231 (C4 v)
 res:∃ z,Row w (g+1) 231 (C4 z)
 bel:Ab g w0 w
theorem QI.set0 {w0 w:Ad} {g:Nat} {a b c d:BitVec 64} (h:QI w0 w g ⟨a,b,c,d⟩) (x:BitVec 64):QI w0 (w.setCell g (Ao .u64 (U x))) g ⟨x,b,c,d⟩:=
 ⟨h.row.set 0 _,by obtain⟨z,hz⟩:=h.res;exact⟨z,hz.other _ _ (by omega)⟩,h.bel.setCell (Ay _) _⟩
theorem QI.set1 {w0 w:Ad} {g:Nat} {a b c d:BitVec 64} (h:QI w0 w g ⟨a,b,c,d⟩) (x:BitVec 64):QI w0 (w.setCell (Q g 1 I) (Ao .u64 (U x))) g ⟨a,x,c,d⟩:=
 ⟨h.row.set 1 _,by obtain⟨z,hz⟩:=h.res;exact⟨z,hz.other _ _ (by omega)⟩,h.bel.setCell (Ay _) _⟩
theorem QI.set2 {w0 w:Ad} {g:Nat} {a b c d:BitVec 64} (h:QI w0 w g ⟨a,b,c,d⟩) (x:BitVec 64):QI w0 (w.setCell (Q g 2 I) (Ao .u64 (U x))) g ⟨a,b,x,d⟩:=
 ⟨h.row.set 2 _,by obtain⟨z,hz⟩:=h.res;exact⟨z,hz.other _ _ (by omega)⟩,h.bel.setCell (Ay _) _⟩
theorem QI.set3 {w0 w:Ad} {g:Nat} {a b c d:BitVec 64} (h:QI w0 w g ⟨a,b,c,d⟩) (x:BitVec 64):QI w0 (w.setCell (Q g 3 I) (Ao .u64 (U x))) g ⟨a,b,c,x⟩:=
 ⟨h.row.set 3 _,by obtain⟨z,hz⟩:=h.res;exact⟨z,hz.other _ _ (by omega)⟩,h.bel.setCell (Ay _) _⟩
theorem QI.drew {w0 w:Ad} {g:Nat} {v:V4} (h:QI w0 w g v):QI w0 w.drew g v:=⟨h.row,h.res,h.bel.drew⟩
theorem QI.cells {w0 w:Ad} {g:Nat} {a b c d:BitVec 64} (h:QI w0 w g ⟨a,b,c,d⟩):w.cell? g=M (Ao .u64 (U a))/\w.cell? (Q g 1 I)=M (Ao .u64 (U b))/\w.cell? (Q g 2 I)=M (Ao .u64 (U c))/\w.cell? (Q g 3 I)=M (Ao .u64 (U d))/\w.frozen? g=Av/\w.frozen? (Q g 1 I)=Av/\w.frozen? (Q g 2 I)=Av/\w.frozen? (Q g 3 I)=Av:=
 ⟨h.row.cell 0,h.row.cell 1,h.row.cell 2,h.row.cell 3,h.row.free 0,h.row.free 1,h.row.free 2,h.row.free 3⟩
theorem JO (v:V4) (w:Ad):CB 197 #[A4 v] w (A4 (mx v)):=by
 obtain⟨a,b,c,d⟩:=v;have n0:=Gs.U_add;have o0:=Gs.U_xor;obtain⟨w1,b0⟩:=nmH ((w.alloc (J (C4 ⟨a+b,b,c,d⟩) 231)).alloc (J #[Ao .u64 0,Ao .u64 0,Ao .u64 0,Ao .u64 0] 231));have K1:H (QI w w1 w ⟨a+b,b,c,d⟩):=by
  rw[b0.out];refine⟨(Row.new w _ _).alloc _,⟨⟨0,0,0,0⟩,?_⟩,((Az _ _).alloc (Ay _) _).alloc (by simp) _⟩;have:=Row.new (w.alloc (J (C4 ⟨a+b,b,c,d⟩) 231)) #[Ao .u64 0,Ao .u64 0,Ao .u64 0,Ao .u64 0] 231
  rw[show (w.alloc (J (C4 ⟨a+b,b,c,d⟩) 231)).1.size=w.1.size+1 by simp] at this;exact this
 go_enter func197,ntmps197
 go_wp2_with fail
 rw[<-b0.out];obtain⟨w2,a0⟩:=nmH ((((w1.drew.setCell (Q w 1 I) (Ao .u64 (U ((rolI b 13 ^^^ (a+b)))))).setCell (Q w 0 I) (Ao .u64 (U (rolI (a+b) 32)))).setCell (Q w 2 I) (Ao .u64 (U (c+d)))));have K2:H (QI w w2 w ⟨rolI (a+b) 32,(rolI b 13 ^^^ (a+b)),c+d,d⟩):=by rw[a0.out];exact(((K1.drew.set1 ((rolI b 13 ^^^ (a+b)))).set0 (rolI (a+b) 32)).set2 (c+d))
 obtain⟨x1,i0⟩:=nmH w1.drew;have J1:H (QI w x1 w ⟨a+b,b,c,d⟩):=by rw[i0.out];exact K1.drew
 obtain⟨c0,c1,c2,c3,f0,f1,f2,f3⟩:=K1.cells;go_still_tail 7,Tryz.mixed
 still_call (vS b 13 _)
 repeat still_step
 refine Gr ?_;rw[qP,<-i0.out];clear c0 c1 c2 c3 f0 f1 f2 f3;obtain⟨w2,a0⟩:=nmH ((((x1.setCell (Q w 1 I) (Ao .u64 (U ((rolI b 13 ^^^ (a+b)))))).setCell (Q w 0 I) (Ao .u64 (U (rolI (a+b) 32)))).setCell (Q w 2 I) (Ao .u64 (U (c+d)))));have K2:H (QI w w2 w ⟨rolI (a+b) 32,(rolI b 13 ^^^ (a+b)),c+d,d⟩):=by rw[a0.out];exact(((J1.set1 ((rolI b 13 ^^^ (a+b)))).set0 (rolI (a+b) 32)).set2 (c+d))
 obtain⟨c0,c1,c2,c3,f0,f1,f2,f3⟩:=J1.cells;go_wp2_with (go_at_call 212;refine(vS _ _ _).mono ?_;rintro e w' ⟨rfl,hw⟩;obtain rfl:=hw.symm)
 clear c0 c1 c2 c3 f0 f1 f2 f3;rw[<-a0.out];obtain⟨x2,j0⟩:=nmH w2.drew;have J2:H (QI w x2 w ⟨rolI (a+b) 32,(rolI b 13 ^^^ (a+b)),c+d,d⟩):=by rw[j0.out];exact K2.drew
 obtain⟨c0,c1,c2,c3,f0,f1,f2,f3⟩:=K2.cells;go_still_tail 7,Tryz.mixed
 still_call (vS d 16 _)
 repeat still_step
 refine Gr ?_;rw[qP,<-j0.out];clear c0 c1 c2 c3 f0 f1 f2 f3;obtain⟨w3,d0⟩:=nmH (((x2.setCell (Q w 3 I) (Ao .u64 (U ((rolI d 16 ^^^ (c+d)))))).setCell (Q w 0 I) (Ao .u64 (U ((rolI (a+b) 32+(rolI d 16 ^^^ (c+d))))))));have K3:H (QI w w3 w ⟨(rolI (a+b) 32+(rolI d 16 ^^^ (c+d))),(rolI b 13 ^^^ (a+b)),c+d,(rolI d 16 ^^^ (c+d))⟩):=by rw[d0.out];exact((J2.set3 ((rolI d 16 ^^^ (c+d)))).set0 ((rolI (a+b) 32+(rolI d 16 ^^^ (c+d)))))
 obtain⟨c0,c1,c2,c3,f0,f1,f2,f3⟩:=J2.cells;go_wp2_with (go_at_call 212;refine(vS _ _ _).mono ?_;rintro e w' ⟨rfl,hw⟩;obtain rfl:=hw.symm)
 clear c0 c1 c2 c3 f0 f1 f2 f3;rw[<-d0.out];obtain⟨x3,k0⟩:=nmH w3.drew;have J3:H (QI w x3 w ⟨(rolI (a+b) 32+(rolI d 16 ^^^ (c+d))),(rolI b 13 ^^^ (a+b)),c+d,(rolI d 16 ^^^ (c+d))⟩):=by rw[k0.out];exact K3.drew
 obtain⟨c0,c1,c2,c3,f0,f1,f2,f3⟩:=K3.cells;go_still_tail 7,Tryz.mixed
 still_call (vS (rolI d 16 ^^^ (c+d)) 21 _)
 repeat still_step
 refine Gr ?_;rw[qP,<-k0.out];clear c0 c1 c2 c3 f0 f1 f2 f3;obtain⟨w4,e0⟩:=nmH (((x3.setCell (Q w 3 I) (Ao .u64 (U ((rolI (rolI d 16 ^^^ (c+d)) 21 ^^^ (rolI (a+b) 32+(rolI d 16 ^^^ (c+d)))))))).setCell (Q w 2 I) (Ao .u64 (U (((c+d)+(rolI b 13 ^^^ (a+b))))))));have K4:H (QI w w4 w ⟨(rolI (a+b) 32+(rolI d 16 ^^^ (c+d))),(rolI b 13 ^^^ (a+b)),((c+d)+(rolI b 13 ^^^ (a+b))),(rolI (rolI d 16 ^^^ (c+d)) 21 ^^^ (rolI (a+b) 32+(rolI d 16 ^^^ (c+d))))⟩):=by rw[e0.out];exact((J3.set3 ((rolI (rolI d 16 ^^^ (c+d)) 21 ^^^ (rolI (a+b) 32+(rolI d 16 ^^^ (c+d)))))).set2 (((c+d)+(rolI b 13 ^^^ (a+b)))))
 obtain⟨c0,c1,c2,c3,f0,f1,f2,f3⟩:=J3.cells;go_wp2_with (go_at_call 212;refine(vS _ _ _).mono ?_;rintro e w' ⟨rfl,hw⟩;obtain rfl:=hw.symm)
 clear c0 c1 c2 c3 f0 f1 f2 f3;rw[<-e0.out];obtain⟨x4,m0⟩:=nmH w4.drew;have J4:H (QI w x4 w ⟨(rolI (a+b) 32+(rolI d 16 ^^^ (c+d))),(rolI b 13 ^^^ (a+b)),((c+d)+(rolI b 13 ^^^ (a+b))),(rolI (rolI d 16 ^^^ (c+d)) 21 ^^^ (rolI (a+b) 32+(rolI d 16 ^^^ (c+d))))⟩):=by rw[m0.out];exact K4.drew
 obtain⟨c0,c1,c2,c3,f0,f1,f2,f3⟩:=K4.cells;go_still_tail 7,Tryz.mixed
 still_call (vS (rolI b 13 ^^^ (a+b)) 17 _)
 repeat still_step
 refine Gr ?_;rw[qP,<-m0.out];clear c0 c1 c2 c3 f0 f1 f2 f3;obtain⟨c0,c1,c2,c3,f0,f1,f2,f3⟩:=J4.cells;obtain⟨w5,h0⟩:=nmH (((x4.setCell (Q w 1 I) (Ao .u64 (U ((rolI (rolI b 13 ^^^ (a+b)) 17 ^^^ ((c+d)+(rolI b 13 ^^^ (a+b)))))))).setCell (Q w 2 I) (Ao .u64 (U (rolI ((c+d)+(rolI b 13 ^^^ (a+b))) 32)))));have K5:H (QI w w5 w ⟨(rolI (a+b) 32+(rolI d 16 ^^^ (c+d))),(rolI (rolI b 13 ^^^ (a+b)) 17 ^^^ ((c+d)+(rolI b 13 ^^^ (a+b)))),rolI ((c+d)+(rolI b 13 ^^^ (a+b))) 32,(rolI (rolI d 16 ^^^ (c+d)) 21 ^^^ (rolI (a+b) 32+(rolI d 16 ^^^ (c+d))))⟩):=by rw[h0.out];exact(J4.set1 _).set2 _
 have R5:H (Row w5 w 231 (C4 ⟨(rolI (a+b) 32+(rolI d 16 ^^^ (c+d))),(rolI (rolI b 13 ^^^ (a+b)) 17 ^^^ ((c+d)+(rolI b 13 ^^^ (a+b)))),rolI ((c+d)+(rolI b 13 ^^^ (a+b))) 32,(rolI (rolI d 16 ^^^ (c+d)) 21 ^^^ (rolI (a+b) 32+(rolI d 16 ^^^ (c+d))))⟩)):=K5.row;obtain⟨z,hz⟩:=K5.res;have Z5:H (Row w5 (w.1.size+1) 231 (C4 z)):=hz;clear hz;go_wp2_with fail
 refine(vS _ _ _).mono ?_;rintro e w' ⟨rfl,hw⟩;obtain rfl:=hw.symm;have ZR:H (Row ((((w5.setCell (Q (w.1.size+1) 0 I) (Ao .u64 (U (rolI (a+b) 32+(rolI d 16 ^^^ (c+d)))))).setCell (Q (w.1.size+1) 1 I) (Ao .u64 (U (rolI (rolI b 13 ^^^ (a+b)) 17 ^^^ ((c+d)+(rolI b 13 ^^^ (a+b))))))).setCell (Q (w.1.size+1) 2 I) (Ao .u64 (U (rolI ((c+d)+(rolI b 13 ^^^ (a+b))) 32)))).setCell (Q (w.1.size+1) 3 I) (Ao .u64 (U (rolI (rolI d 16 ^^^ (c+d)) 21 ^^^ (rolI (a+b) 32+(rolI d 16 ^^^ (c+d))))))) (w.1.size+1) 231 (C4 (mx ⟨a,b,c,d⟩))):=(((Z5.set 0 _).set 1 _).set 2 _).set 3 _;obtain⟨q0,q1,q2,q3⟩:=Z5.c4 0 1 2 3;have g0:=Z5.free 0;have g1:=Z5.free 1;have g2:=Z5.free 2;have g3:=Z5.free 3;simp at q0 q1 q2 q3;go_wp2_with (rw[<-h0.out];refine Bb rfl 231 _ rfl w rfl 231 _ (0,0) _ R5 Fe rfl Tryz.info4 ?_;clear c0 c1 c2 c3 f0 f1 f2 f3)
 clear q0 q1 q2 q3 g0 g1 g2 g3;refine B7 (v:=A4 (mx ⟨a,b,c,d⟩)) (Ck results197 _ _ (w.1.size+1) 231 _ (0,0) _ (by simp) ZR Fe rfl Tryz.info4) rfl ⟨rfl,?_⟩;exact Bn (Bn (Bn (Bn K5.bel (by simp) _) (by simp) _) (by simp) _) (by simp) _
end
theorem xU {a b:BA} (h:a=b):Ending.returned a=Ae b:=by rw[h]
theorem jCi (c:UInt8):c.toNat<256:=c.toNat_lt
def jAo (s:BA) (A:Nat):List Int:=s.data.toList.map fun c=>((Gf.mul c.toNat A:Nat):Int)
def vX (s:BA) (a:Int):BA:=if isB a=Aw then strOfNums (jAo s a.toNat) else Ap
theorem jBd (s:BA) (A:Nat):(jAo s A).length=s.size:=by simp[jAo]
theorem jD0 (s:BA) (A k:Nat) (h:k<s.size):(jAo s A).getD k 0=((Gf.mul s[k].toNat A:Nat):Int):=by
 have h':k<s.data.toList.length:=by simpa using h
 simp only[jAo,List.getD,Eb,Bj h',Gn,Er];rfl
theorem jId (s:BA) (A:Nat) (w:Ad) (hs:s.size<=1048576) (hA:A<256):CB 187 #[s,(A:Int)] w (strOfNums (jAo s A)):=by
 obtain⟨i0,hi,h0,j0,k0⟩:=Cg Tryz.infoByte;have ia:=qW hA;obtain⟨xs,HX⟩:=nmH (jAo s A);obtain⟨n,hn⟩:∃ n,s.size=n:=⟨_,rfl⟩;have HL:H (xs.length=n):=by show _=_;rw[HX.out,jBd,hn]
 go_enter func187,ntmps187
 go_wp2_with fail
 refine(QB _ _).mono ?_;rintro e w' ⟨rfl,hw⟩;obtain rfl:=hw.symm;go_wp2
 have ho1:(w.alloc (J #[] 5)).ownsRow w 5 1 (V (Q w 0 I) 0 0) 0 ((xs.take 0).map (Ao .u8)):=
  Cc w #[] 0 (Ay _) (by unfold Au;omega) rfl
 go_loopw [5,6] (fun v i wr=>∃ k:Nat,k<=n/\i=Ao Ar k/\wr.ownsRow w 5 1 v k ((xs.take k).map (Ao .u8))/\H (v≠V I 0 0)/\Ab w w wr) (fun _ i _=>n-(intOf i).toNat)
 case atStart=>exact⟨0,Bi _,rfl,ho1,by simp[H],(Az _ _).alloc (Ay _) _⟩
 case round=>
  obtain⟨k,hk,rfl,a0,HV,hbel⟩:=hrel;by_cases hlt:k<n
  .have f0:k<s.size:=by omega
   have o0:=Gf.mul_lt (jCi s[k]) hA;have HE:H (xs.take (k+1)=xs.take k++[((Gf.mul s[k].toNat A:Nat):Int)]):=by
    show _=_;rw[XC xs k (by rw[HL.out];exact hlt),HX.out,jD0 s A k f0]
   have e0:=jCi s[k];go_wp2_with fail
   refine(ZM _ A _ e0 hA).mono ?_;rintro e w1 ⟨rfl,g0⟩;obtain rfl:=g0.symm;go_wp2_with (at_builtin;refine wpList_append_own _ rfl _ _ 22 rfl w 5 i0 (Ao .u8 0) 1 1 Cr hi h0 j0 k0 rfl (by decide) _ _ _ rfl (a0.alloc _) ⟨wr.1.size,0,I⟩ 1 1 [Ao .u8 ((Gf.mul s[k].toNat A:Nat):Int)] rfl rfl ?c1 ?c2 ?c3 ?c4 ?c5 ?_)
   case c1=>
    intro j u hj;match j,hj with
    | 0,hj=>simp at hj;subst hj;simp[Addr.add]
   case c2=>intro u hu;simp at hu;subst hu;rfl
   case c3=>unfold Au;omega
   case c4=>omega
   case c5=>have:=hbel.size;simp;omega
   .intro v' w1 c0 b0 d0;have HV':=hd d0;have HO:H (w1.ownsRow w 5 1 v' (k+1) ((xs.take (k+1)).map (Ao .u8))):=by
     rw[HE.out,Dw,Gz];exact c0
    have hb':=(hbel.alloc hbel.size _).grown b0 (by have:=hbel.size;simp;omega) (fun j hj=>(a0.lt j hj).1);go_wp2
    go_roundw
    case rel=>exact⟨k+1,by omega,by go_num,HO.out,HV'.out,hb'⟩
    case measure=>simp[intOf];omega
  .have e:k=n:=by omega
   subst e;rw[Dl (by rw[HL.out];omega)] at a0;obtain⟨g,cap,rfl⟩:∃ g cap,u5=V (Q g 0 I) k cap:=by
    rcases a0.2 with h|⟨g,cap,m0,h,_⟩
    .exact Bo h.1 HV
    .exact⟨g,cap,h⟩
   have n0:=Dq (P:=prog) wr 22 5 Cr D9 g 0 k cap xs HL (fun i hi=>by
    rw[Bt,a0.cellAt i (by omega)];simp[HL.out,hi]) 9 C6
   go_wp2
   go_ret
   exact⟨xU (by rw[HX.out]),hbel⟩
theorem jBb (s:BA) (a:Int) (w:Ad) (hs:s.size<=1048576):CB 187 #[s,a] w (vX s a):=by
 by_cases ha:isB a=Aw
 .obtain⟨A,hA,rfl⟩:=zV ha;refine(jId s A w hs hA).mono ?_;rintro e w' ⟨rfl,hb⟩;exact⟨xU (by simp[vX,ha]),hb⟩
 .have a0:isB a=Av:=by simpa using ha
  go_enter func187,ntmps187
  go_wp2_with (go_at_call 182;refine(QB _ _).mono ?_;rintro e w' ⟨rfl,rfl⟩)
  go_ret
  exact⟨xU (by simp[vX,ha];rfl),Az _ _⟩
def eI (f:Nat->Nat) (n:Nat):List Int:=(List.range n).map fun i=>((f i:Nat):Int)
theorem vA (f:Nat->Nat) (n:Nat):(eI f n).length=n:=by simp[eI]
theorem jCx (f:Nat->Nat) (n i:Nat) (h:i<n):(eI f n)[i]?=M ((f i:Nat):Int):=by simp[eI,h]
theorem JU (f:Nat->Nat) (n i:Nat) (h:i<n):(eI f n).getD i 0=((f i:Nat):Int):=by simp[List.getD,jCx f n i h]
theorem jF4 {f g:Nat->Nat} {n:Nat} (h:∀ i,i<n->f i=g i):eI f n=eI g n:=by
 unfold eI;apply El
 intro i hi;rw[h i (Fc.1 hi)]
theorem jRl {zs:List Int} {f:Nat->Nat} {n:Nat} (hl:zs.length=n) (h:∀ i,i<n->zs.getD i 0=((f i:Nat):Int)):zs=eI f n:=by
 apply Co
 intro i;by_cases hi:i<n
 .have h1:=h i hi;rw[jCx f n i hi];have h2:i<zs.length:=by omega
  rw[Bj h2];simp[List.getD,Bj h2] at h1;rw[h1]
 .rw[Be (by omega),Be (by rw[vA];omega)]
theorem jRm (f:Nat->Nat) (n k v:Nat) (d:IntKind) (h:k<n):((eI f n).map (Ao d)).set k (Ao d (v:Int))=(eI (fun i=>if i=k then v else f i) n).map (Ao d):=by
 apply Co
 intro i;rw[Ey];by_cases hi:i<n
 .by_cases e:k=i
  .subst e;simp[eI,h]
  .simp[eI,hi,e,Cj e]
 .by_cases e:k=i
  .omega
  .rw[A5 e,Be (by simp[vA];omega),Be (by simp[vA];omega)]
theorem jF5 {f:Nat->Nat} (n v:Nat) (h:∀ i,i<n->f i=v):eI f n=List.replicate n (v:Int):=by
 symm
 apply jRl
 .simp
 .intro i hi;rw[h i hi];simp[List.getD,hi]
def jQ4 (w:Ad) (B:Nat) (v:Aj) (zs:List Int):Prop:=w.ownsRow B 3 1 v zs.length (zs.map (Ao Ar))
theorem jC {w w1:Ad} (h:Ab w.drew.1.size w.drew w1):Ab w w w1:=⟨h.os,h.tape,h.output,h.size,h.block⟩
theorem jX {w:Ad} {B e s:Nat} {a:OA} {n cap n':Nat} {xs:List Aj} (h:w.ownsRow B e s (V a n cap) n' xs):(a=I/\n=0/\cap=0)\/∃ g a0,a=M (Q g 0 I)/\B<=g/\w.1[g]?=M (J a0 e)/\n<=cap:=by
 rcases h.2 with ⟨h',_⟩|⟨g,b0,a0,h',hb,hg,hn,_⟩
 .cases h';exact .inl ⟨rfl,rfl,rfl⟩
 .cases h';exact .inr ⟨g,a0,rfl,hb,hg,hn⟩
theorem jK {w w':Ad} {B e s n:Nat} {a:OA} {l c b:Nat} {xs:List Aj} (h:w.ownsRow B e s (V a l c) n xs) (hg:w.grownBy w' (M b)) (hn:∀ x,a=M x->x.block≠b):w'.ownsRow B e s (V a l c) n xs:=by
 refine World.ownsRow.kept h hg ?_;cases a with
 | none=>exact .inl rfl
 | some x=>exact .inr (by simp[Value.ownBlock];exact hn x rfl)
theorem jP (w:Ad) (g j:Nat) (v:Aj):w.grownBy (w.setCell (Q g j I) v) (M g):=
 ⟨rfl,rfl,rfl,by simp,fun i _ hi=>Cn w (Q g j I) i _ (fun e=>hi (by simp[e]))⟩
structure zD (w w':Ad) (B E:Nat):Prop where
 os:w'.os=w.os
 tape:w'.tape=w.tape
 output:w'.output=w.output
 size:w.1.size<=w'.1.size
 block:∀ j,j<w.1.size->(j<B\/E<=j)->w'.1[j]?=w.1[j]?
theorem zD.refl (w:Ad) (B E:Nat):zD w w B E:=⟨rfl,rfl,rfl,Ay _,fun _ _ _=>rfl⟩
theorem zD.trans {w w1 w2:Ad} {B E:Nat} (h:zD w w1 B E) (h2:zD w1 w2 B E):zD w w2 B E:=
 ⟨h2.os.trans h.os,h2.tape.trans h.tape,h2.output.trans h.output,By h.size h2.size,fun j hj hr=>(h2.block j (Bu hj h.size) hr).trans (h.block j hj hr)⟩
def tot (L:Nat->Nat):Nat->Nat
 | 0=>0
 | n+1=>tot L n+L n
theorem jEc (L:Nat->Nat) {i n:Nat} (h:i<n):tot L i+L i<=tot L n:=by
 induction n with
 | zero=>omega
 | succ n ih=>
  by_cases e:i=n
  .subst e;exact Ay _
  .have:=ih (by omega)
   show _<=tot L n+L n;omega
theorem jY {w:Ad} {B B' e s n:Nat} {v:Aj} {xs:List Aj} (h:w.ownsRow B e s v n xs) (hB:B'<=B):w.ownsRow B' e s v n xs:=by
 refine⟨h.1,?_⟩;rcases h.2 with h'|⟨g,cap,a0,h1,h2,h3⟩
 .exact .inl h'
 .exact .inr ⟨g,cap,a0,h1,by omega,h3⟩
def szF (L:Nat->Nat) (n l:Nat):Int:=if n+tot L n<=l then ((l-(n+tot L n):Nat):Int) else -1
section
open Gs (U rolI V4 mx inn key all4 fin)
abbrev H6 (L n:Nat) (v:V4):Array Aj:=#[Ao .u64 (L:Int),Ao Ar (n:Int),Ao .u64 (U v.a),Ao .u64 (U v.b),Ao .u64 (U v.c),Ao .u64 (U v.d)]
theorem jJt (a b:BitVec 64) (w:Ad):Ak prog 243 #[Ao .u64 (U a),Ao .u64 (U b)] w fun e w'=>e=Ae (Af (Q w 0 I))/\w'=w.alloc (J (H6 0 0 (key a b)) 269):=by
 have h1:bits .xor .u64 (U a) 8317987319222330741=U (a ^^^ 8317987319222330741#64):=Gs.U_xor a 8317987319222330741#64;have h2:bits .xor .u64 (U b) 7237128888997146477=U (b ^^^ 7237128888997146477#64):=Gs.U_xor b 7237128888997146477#64;have h3:bits .xor .u64 (U a) 7816392313619706465=U (a ^^^ 7816392313619706465#64):=Gs.U_xor a 7816392313619706465#64;have h4:bits .xor .u64 (U b) 8387220255154660723=U (b ^^^ 8387220255154660723#64):=Gs.U_xor b 8387220255154660723#64;go_enter func243,ntmps243
 go_wp2
 go_ret
 exact⟨rfl,rfl⟩
theorem jSc (L x k:Nat) (hL:L<18446744073709551616) (hx:x<256) (hk:k<8):bits .or .u64 (L:Int) (IntKind.u64.wrap ((x:Int)*2 ^ (8*k)))=((L ||| x*2 ^ (8*k):Nat):Int):=by
 have hp:x*2 ^ (8*k)<18446744073709551616:=by
  have h1:(2:Nat) ^ (8*k)<=2 ^ 56:=Nat.pow_le_pow_right (by omega) (by omega);have h2:x*2 ^ (8*k)<=255*2 ^ 56:=Nat.mul_le_mul (by omega) h1;omega
 have e:IntKind.u64.wrap ((x:Int)*2 ^ (8*k))=((x*2 ^ (8*k):Nat):Int):=by
  have:=Gs.wrap_nat (x*2 ^ (8*k))
  rw[Dx hp] at this;rw[<-this];simp
 rw[e,bits_or_u64_nat _ _ hL hp]
theorem jQe (g L n x:Nat) (v:V4) (w:Ad) (h:Row w g 269 (H6 L n v)) (hn:n<=4194304) (hL:L<18446744073709551616) (hx:x<256):Ak prog 244 #[Af g,Ao .u8 (x:Int)] w fun e w'=>e=Ae (decide ((n+1) % 8=0))/\Row w' g 269 (H6 (L ||| x*2 ^ (8*(n % 8))) (n+1) v)/\Ab g w w':=by
 obtain⟨c0,c1⟩:=h.c2 0 1;have f0:=h.free 0;have f1:=h.free 1;simp at c0 c1;obtain⟨k,HK⟩:=nmH (n % 8);have b0:k<8:=by have:=HK.out;omega
 have d0:(n:Int) % 8=(k:Int):=by have:=HK.out;omega
 have hm:(n:Int).tmod 8=(k:Int):=by rw[Eg (by omega)];exact d0
 have g0:=jSc L x k hL hx b0;have h0:IntKind.u64.wrap (x:Int)=(x:Int):=by rw[Fq];omega
 have e0:IntKind.i64.wrap (8*(k:Int))=((8*k:Nat):Int):=by rw[A8];omega
 go_enter func244,ntmps244
 go_wp2_with fail
 go_still_tail 16,Tryz.mixed
 rw[qP];obtain⟨w1,a0⟩:=nmH w.drew;rw[<-a0.out];have K1:H (Row w1 g 269 (H6 L n v)):=by show Row _ _ _ _;rw[a0.out];exact h.drew
 have B1:H (Ab g w w1):=by show Ab _ _ _;rw[a0.out];exact(Az _ _).drew
 obtain⟨c0,c1⟩:=K1.c2 0 1;have f0:=K1.free 0;have f1:=K1.free 1;simp at c0 c1;go_wp2
 go_ret
 refine⟨jT ?_,?_,(B1.setCell (Ay _) _).setCell (Ay _) _⟩
 .rw[Bool.eq_iff_iff];simp
  omega
 .rw[<-HK.out];exact(K1.set 0 _).set 1 _
theorem jNu (g L n:Nat) (v:V4) (w:Ad) (h:Row w g 269 (H6 L n v)):Ak prog 246 #[Af g] w fun e w'=>e=Ae (Ao .u64 (L:Int))/\Row w' g 269 (H6 0 n v)/\Ab g w w':=by
 have c0:=h.cell 0;have f0:=h.free 0;simp at c0;have K:=hd h;go_enter func246,ntmps246
 go_wp2
 go_ret
 exact⟨rfl,K.set 0 _,Bn (Az g _) (p:=Q g 0 I) (Ay _) _⟩
theorem jMo (g L n:Nat) (v:V4) (w:Ad) (h:Row w g 269 (H6 L n v)) (hn:n<=4194304) (hL:L<18446744073709551616):Ak prog 253 #[Af g] w fun e w'=>e=Ae (Ao .u64 (U (BitVec.ofNat 64 L ||| (BitVec.ofNat 64 n <<< 56))))/\Row w' g 269 (H6 L n v)/\Ab g w w':=by
 obtain⟨c0,c1⟩:=h.c2 0 1;simp at c0 c1;have K:=hd h;have b0:IntKind.u64.wrap (n:Int)=(n:Int):=by rw[Fq];omega
 have a0:bits .or .u64 (L:Int) (IntKind.u64.wrap ((n:Int)*72057594037927936))=U (BitVec.ofNat 64 L ||| (BitVec.ofNat 64 n <<< 56)):=by
  rw[Gs.U_nat (n:=n) (by omega),show (72057594037927936:Int)=2 ^ 56 by decide,Gs.U_shl,Gs.U_nat hL,Gs.U_or]
 go_enter func253,ntmps253
 go_wp2_with fail
 go_quiet (fail)
 go_wp2
 go_ret
 exact⟨rfl,K,xW (Az _ _) _⟩
def mxs (v:V4):Nat->V4
 | 0=>v
 | k+1=>mx (mxs v k)
theorem jDj (g L n r:Nat) (v:V4) (w:Ad) (h:Row w g 269 (H6 L n v)) (hr:r<=4):Ak prog 252 #[Af g,(r:Int)] w fun e w'=>e=Ae (Ah #[])/\Row w' g 269 (H6 L n (mxs v r))/\Ab g w w':=by
 go_enter func252,ntmps252
 go_wp2
 go_loopw [5] (fun i wr=>∃ k:Nat,k<=r/\i=Ao Ar k/\Row wr g 269 (H6 L n (mxs v k))/\Ab g w wr) (fun i _=>r-(intOf i).toNat)
 case atStart=>exact⟨0,Bi _,rfl,h,Az _ _⟩
 case round=>
  obtain⟨k,hk,rfl,a0,hb⟩:=hrel;clear h;by_cases hlt:k<r
  .have d0:(k:Int)<(r:Int):=by omega
   obtain⟨a,b,c,d,HV⟩:∃ a b c d,H (mxs v k=⟨a,b,c,d⟩):=⟨_,_,_,_,rfl⟩;rw[HV.out] at a0;obtain⟨c2,c3,c4,c5⟩:=a0.c4 2 3 4 5;simp at c2 c3 c4 c5;have K:H (Row wr g 269 (H6 L n ⟨a,b,c,d⟩)):=a0;clear a0;have hM:=jP8 ⟨a,b,c,d⟩ wr;have HS:H (mxs v (k+1)=mx ⟨a,b,c,d⟩):=by show _=_;rw[mxs,HV.out]
   generalize mx ⟨a,b,c,d⟩=m at hM HS;obtain⟨p,q,s,t⟩:=m;have KM:H _:=hM;clear hM;go_wp2_with fail
   refine CM KM.out fun w2 b0=>?_
   have c0:=K.lt;have K2:H (Row w2 g 269 (H6 L n ⟨a,b,c,d⟩)):=K.below b0 c0;have HB:H (Ab g w w2):=hb.trans (b0.mono (by omega));have KN:H (Row ((((w2.setCell (Q g 2 I) (Ao .u64 (U p))).setCell (Q g 3 I) (Ao .u64 (U q))).setCell (Q g 4 I) (Ao .u64 (U s))).setCell (Q g 5 I) (Ao .u64 (U t))) g 269 (H6 L n (mxs v (k+1)))):=by
    show Row _ _ _ _;rw[HS.out];exact(((K2.set 2 _).set 3 _).set 4 _).set 5 _
   have BN:H (Ab g w ((((w2.setCell (Q g 2 I) (Ao .u64 (U p))).setCell (Q g 3 I) (Ao .u64 (U q))).setCell (Q g 4 I) (Ao .u64 (U s))).setCell (Q g 5 I) (Ao .u64 (U t)))):=Bn (Bn (Bn (Bn HB (by simp) _) (by simp) _) (by simp) _) (by simp) _;clear c2 c3 c4 c5;obtain⟨c2,c3,c4,c5⟩:=K2.c4 2 3 4 5;have f2:=K2.free 2;have f3:=K2.free 3;have f4:=K2.free 4;have f5:=K2.free 5;simp at c2 c3 c4 c5;go_wp2
   go_roundw
   case rel=>exact⟨k+1,by omega,by go_num,KN.out,BN.out⟩
   case measure=>simp[intOf];omega
  .obtain rfl:k=r:=by omega
   have K:H (Row wr g 269 (H6 L n (mxs v k))):=a0;clear a0;go_wp2
   go_end0
   exact⟨rfl,K,hb⟩
theorem jIy (g L n:Nat) (v:V4) (x:BitVec 64) (w:Ad) (h:Row w g 269 (H6 L n v)):Ak prog 245 #[Af g,Ao .u64 (U x)] w fun e w'=>e=Ae (Ah #[])/\Row w' g 269 (H6 L n (inn v x))/\Ab g w w':=by
 obtain⟨a,b,c,d⟩:=v;have e0:=Gs.U_xor;have c5:=h.cell 5;have f5:=h.free 5;simp at c5;have K0:H (Row w g 269 (H6 L n ⟨a,b,c,d⟩)):=h;clear h;go_enter func245,ntmps245
 go_wp2_with fail
 go_still_tail 10,Tryz.mixed
 rw[qP];obtain⟨w1,a0⟩:=nmH w.drew;rw[<-a0.out];have K1:H (Row w1 g 269 (H6 L n ⟨a,b,c,d⟩)):=by show Row _ _ _ _;rw[a0.out];exact K0.drew
 have B1:H (Ab g w w1):=by show Ab _ _ _;rw[a0.out];exact(Az _ _).drew
 clear c5 f5;have c5:=K1.cell 5;have f5:=K1.free 5;simp at c5;obtain⟨w2,b0⟩:=nmH (w1.setCell (Q g 5 I) (Ao .u64 (U (d ^^^ x))));have K2:H (Row w2 g 269 (H6 L n ⟨a,b,c,d ^^^ x⟩)):=by show Row _ _ _ _;rw[b0.out];exact K1.set 5 _
 have B2:H (Ab g w w2):=by show Ab _ _ _;rw[b0.out];exact Bn B1 (by simp) _
 go_wp2_with fail
 rw[<-b0.out];have hm:=jDj g L n 2 ⟨a,b,c,d ^^^ x⟩ w2 K2 (by omega);refine Ax hm ?_;rintro e w3 ⟨rfl,h3,d0⟩;clear hm c5 f5;have HI:H (inn ⟨a,b,c,d⟩ x=⟨(mxs ⟨a,b,c,d ^^^ x⟩ 2).a ^^^ x,(mxs ⟨a,b,c,d ^^^ x⟩ 2).b,(mxs ⟨a,b,c,d ^^^ x⟩ 2).c,(mxs ⟨a,b,c,d ^^^ x⟩ 2).d⟩):=rfl;generalize mxs ⟨a,b,c,d ^^^ x⟩ 2=m at h3 HI;obtain⟨p,q,s,t⟩:=m;have K3:H (Row w3 g 269 (H6 L n ⟨p,q,s,t⟩)):=h3;have B3:H (Ab g w w3):=B2.trans d0;clear h3 d0;have c2:=K3.cell 2;have f2:=K3.free 2;simp at c2;go_wp2_with fail
 go_still_tail 10,Tryz.mixed
 rw[qP];obtain⟨w4,c0⟩:=nmH w3.drew;rw[<-c0.out];have K4:H (Row w4 g 269 (H6 L n ⟨p,q,s,t⟩)):=by show Row _ _ _ _;rw[c0.out];exact K3.drew
 have B4:H (Ab g w w4):=by show Ab _ _ _;rw[c0.out];exact B3.drew
 clear c2 f2;have c2:=K4.cell 2;have f2:=K4.free 2;simp at c2;go_wp2
 go_end0
 refine⟨rfl,?_,Bn B4 (by simp) _⟩;rw[HI.out];exact K4.set 2 _
end
def jPh (s t:BA):List Int:=List.zipWith (fun(c d:UInt8)=>((c.toNat ^^^ d.toNat:Nat):Int)) s.data.toList t.data.toList
def jL4 (s t:BA):BA:=if s.size=t.size then strOfNums (jPh s t) else Ap
theorem jFx (s t:BA) (h:s.size=t.size):(jPh s t).length=s.size:=by
 have h':s.data.toList.length=t.data.toList.length:=by simpa using h
 simp[jPh] at *;omega
theorem jIx (s t:BA) (k:Nat) (h:k<s.size) (h2:k<t.size):(jPh s t).getD k 0=((s[k].toNat ^^^ t[k].toNat:Nat):Int):=by
 have h':k<s.data.toList.length:=by simpa using h
 have a0:k<t.data.toList.length:=by simpa using h2
 simp only[jPh,List.getD,List.getElem?_zipWith,Bj h',Bj a0,Er];rfl
theorem jH6 (s t:BA) (w:Ad) (hs:s.size<=1048576) (ht:s.size=t.size):CB 188 #[s,t] w (strOfNums (jPh s t)):=by
 obtain⟨i0,hi,k0,m0,n0⟩:=Cg Tryz.infoByte;obtain⟨xs,HX⟩:=nmH (jPh s t);obtain⟨n,hn⟩:∃ n,s.size=n:=⟨_,rfl⟩;have q0:t.size=n:=by omega
 have HL:H (xs.length=n):=by show _=_;rw[HX.out,jFx s t ht,hn]
 clear ht;go_enter func188,ntmps188
 go_wp2
 have ho1:(w.alloc (J #[] 5)).ownsRow w 5 1 (V (Q w 0 I) 0 0) 0 ((xs.take 0).map (Ao .u8)):=
  Cc w #[] 0 (Ay _) (by unfold Au;omega) rfl
 go_loopw [5,6] (fun v i wr=>∃ k g cap:Nat,k<=n/\i=Ao Ar k/\v=V g k cap/\wr.ownsRow w 5 1 (V g k cap) k ((xs.take k).map (Ao .u8))/\Ab w w wr) (fun _ i _=>n-(intOf i).toNat)
 case atStart=>exact⟨0,_,_,Bi _,rfl,rfl,ho1,(Az _ _).alloc (Ay _) _⟩
 case round=>
  obtain⟨k,g,cap,hk,rfl,rfl,a0,c0⟩:=hrel;clear ho1;by_cases hlt:k<n
  .have g0:k<s.size:=by omega
   have h0:k<t.size:=by omega
   have o0:(k:Int)<(n:Int):=by omega
   have r0:bits .xor .u8 (s[k].toNat:Int) (t[k].toNat:Int)=((s[k].toNat ^^^ t[k].toNat:Nat):Int):=u8_xor_nat _ _ (jCi _) (jCi _);have HE:H (xs.take (k+1)=xs.take k++[((s[k].toNat ^^^ t[k].toNat:Nat):Int)]):=by
    show _=_;rw[XC xs k (by rw[HL.out];exact hlt),HX.out,jIx s t k g0 h0]
   have j0:=c0.size;go_wp2_with fail
   go_region_held3 (fun _=>True) (trivial) ((refine step_append_lies _ rfl _ _ _ rfl w 5 i0 _ 1 1 Cr hi k0 m0 n0 rfl (by omega) (V g k cap) k _ rfl ((a0.alloc _).drew) ⟨wr.1.size,0,I⟩ 1 1 [Ao .u8 ((s[k].toNat ^^^ t[k].toNat:Nat):Int)] rfl rfl (Cf (cs:=#[Ao .u8 ((s[k].toNat ^^^ t[k].toNat:Nat):Int)]) (t:=5) (fr:=(0,0)) (Cq wr _)) (by simp[Aq]) (by omega) (by unfold Au;omega) (by omega) (by simp;omega) (wr.1.size+1) (by simp) ?_;intro gg cap2 w1 b0 d0 f0 e0))
   all_goals
    have HO:H (w1.ownsRow w 5 1 (V gg (k+1) cap2) (k+1) ((xs.take (k+1)).map (Ao .u8))):=by
     rw[HE.out,Dw];first|exact b0|(rw[Gz];exact b0)
    have hb':Ab w w w1:=((c0.alloc j0 _).drew).grown d0 (by simp;omega) (fun j hj=>(a0.lt j hj).1);clear b0 d0 a0 f0 e0;go_wp2
    go_roundw
    case rel=>exact⟨k+1,gg,cap2,by omega,by go_num,rfl,HO.out,hb'⟩
    case measure=>simp[intOf];omega
  .have e:k=n:=by omega
   subst e;rw[Dl (by rw[HL.out];omega)] at a0;have p0:=Dq (P:=prog) wr 22 5 Cr D9 g 0 k cap xs HL (fun i hi=>by
    rw[Bt,a0.cellAt i (by omega)];simp[HL.out,hi]) 9 C6
   go_wp2
   go_ret
   exact⟨xU (by rw[HX.out]),c0⟩
theorem jK1 (s t:BA) (w:Ad) (hs:s.size<=1048576):CB 188 #[s,t] w (jL4 s t):=by
 by_cases ha:s.size=t.size
 .refine(jH6 s t w hs ha).mono ?_;rintro e w' ⟨rfl,hb⟩;exact⟨xU (by simp[jL4,ha]),hb⟩
 .have a0:((s.size:Int) !=(t.size:Int))=Aw:=by simp;omega
  go_enter func188,ntmps188
  go_wp2
  go_ret
  exact⟨xU (by simp[jL4,ha];rfl),Az _ _⟩
theorem qF {P:Program} (w:Ad) {k0:Array Oper} {e0:List Oper} {o:Oper} {a:Act} {Q:Exit->Act->Ad->Prop} (o0:o.guard=I) (s x:Operand) (t:TypeId)
  (ho:o.op=.call {callee:=.builtin .append,args:=#[s,x],argTypes:=#[t,t]})
  (base:Nat) (e:TypeId) (i:TypeInfo) (z:Aj) (size b0:Nat) (ht:P.underlying t=M (.slice e)) (hi:P.info? e=M i) (hz:i.zero=M z)
  (i0:i.size=size) (n0:i.bytes=b0) (r0:z.cells.size=size) (q0:0<size)
  (g0 n d0:Nat) (xs:List Aj) (hs:a.eval s=V g0 n d0) (j0:w.ownsRow base e size (V g0 n d0) n xs)
  (ad:Al) (m c:Nat) (a0:List Aj) (hx:a.eval x=V (M ad) m c) (hl:a0.length=m*size) (h0:∀ j u,a0[j]?=M u->w.cell? (ad.add j)=M u) (h1:∀ u∈a0,u.oneCell'=Aw)
  (m0:n+m<=Au) (c0:(n+m)*b0<=140737488355328) (f0:base<=w)
  (h:∀ g cap w',w'.ownsRow base e size (V (Addr.mk g 0 I) (n+m) cap) (n+m) (xs++a0)->w.grownBy w' (M g0)->wpList P k0 Q e0 (a.put o.dst (V (Addr.mk g 0 I) (n+m) cap)) w') :
  wpList P k0 Q (o::e0) a w:=by
 refine wpList_append_own w o0 s x t ho base e i z size b0 ht hi hz i0 n0 r0 q0 _ n xs hs j0 ad m c a0 hx hl h0 h1 m0 c0 f0 fun v' w' h2 h3 h4=>?_
 have p0:v'≠V I 0 0:=fun e=>by have:=h4.1 e;cases this.1
 rcases h2.2 with ⟨e,_⟩|⟨g,cap,s0,e,_⟩
 .exact Bo e p0
 .subst e;exact h g cap w' h2 h3
theorem xK {P:Program} (w:Ad) {j0:Array Oper} {o:Oper} {a:Act} {K:Act->Ad->Prop} {Q:Exit->Act->Ad->Prop} {E:Prop} (n0:o.guard=I) (s x:Operand) (t:TypeId)
  (ho:o.op=.call {callee:=.builtin .append,args:=#[s,x],argTypes:=#[t,t]})
  (base:Nat) (e:TypeId) (i:TypeInfo) (z:Aj) (size b0:Nat) (ht:P.underlying t=M (.slice e)) (hi:P.info? e=M i) (hz:i.zero=M z)
  (h0:i.size=size) (m0:i.bytes=b0) (q0:z.cells.size=size) (p0:0<size)
  (g0 n d0:Nat) (xs:List Aj) (hs:a.eval s=V g0 n d0) (i0:w.ownsRow base e size (V g0 n d0) n xs)
  (ad:Al) (m c:Nat) (a0:List Aj) (hx:a.eval x=V (M ad) m c) (hl:a0.length=m*size) (f0:∀ j u,a0[j]?=M u->w.cell? (ad.add j)=M u) (h1:∀ u∈a0,u.oneCell'=Aw)
  (k0:n+m<=Au) (c0:(n+m)*b0<=140737488355328) (e0:base<=w)
  (h:∀ g cap w',w'.ownsRow base e size (V (Addr.mk g 0 I) (n+m) cap) (n+m) (xs++a0)->w.grownBy w' (M g0)->K (a.put o.dst (V (Addr.mk g 0 I) (n+m) cap)) w') :
  if Region.wanted o (yielded j0 a.tmps)=Aw then Oper.wp P o a w K Q else E:=by
 have hw:Region.wanted o (yielded j0 a.tmps)=Aw:=by simp[Region.wanted,n0]
 rw[A6 hw];refine wp_append_own w s x t ho base e i z size b0 ht hi hz h0 m0 q0 p0 _ n xs hs i0 ad m c a0 hx hl f0 h1 k0 c0 e0 fun v' w' h2 h3 h4=>?_
 have o0:v'≠V I 0 0:=fun e=>by have:=h4.1 e;cases this.1
 rcases h2.2 with ⟨e,_⟩|⟨g,cap,r0,e,_⟩
 .exact Bo e o0
 .subst e;exact h g cap w' h2 h3
theorem Tryz.infoStr:(Tryz.prog.info? 9).map (fun i=>(i.zero,i.size,i.bytes))=M (M (Ag Ap),1,16):=by kernel_rfl
def jL (w:Ad) (a:OA) (n:Nat) (S:Nat->BA):Prop:=∀ i,i<n->∃ b off,a=M (Q b off I)/\w.cell? (Q b (off+i) I)=M (Ag (S i))
theorem jL.below {w w':Ad} {a:OA} {n:Nat} {S:Nat->BA} (h:jL w a n S) (hb:Ab w w w'):jL w' a n S:=fun i hi=>by
 obtain⟨b,off,e,hc⟩:=h i hi;exact⟨b,off,e,(hb.cell (p:=Q b (off+i) I) (A7 hc)).trans hc⟩
theorem jL.some {w:Ad} {a:OA} {n:Nat} {S:Nat->BA} (h:jL w a n S) (hn:0<n):∃ b off,a=M (Q b off I)/\∀ i,i<n->w.cell? (Q b (off+i) I)=.some (Ag (S i)):=by
 obtain⟨b,off,e,_⟩:=h 0 hn;refine⟨b,off,e,fun i hi=>?_⟩;obtain⟨b',a0,e',hc⟩:=h i hi;rw[e] at e';simp at e';obtain⟨rfl,rfl⟩:=e';exact hc
def sL (S:Nat->BA) (n:Nat):List Aj:=(List.range n).map fun i=>Ag (S i)
theorem qX (S:Nat->BA) (n:Nat):(sL S n).length=n:=by simp[sL]
theorem zB (S:Nat->BA) (n i:Nat) (h:i<n):(sL S n)[i]?=M (Ag (S i)):=by simp[sL,h]
theorem xR {S S':Nat->BA} {n:Nat} (h:∀ i,i<n->S i=S' i):sL S n=sL S' n:=by
 unfold sL;apply El
 intro i hi;rw[h i (Fc.1 hi)]
theorem QC (S:Nat->BA) (n:Nat):sL S (n+1)=sL S n++[Ag (S n)]:=by
 unfold sL;rw[List.range_succ,Dw];rfl
theorem jA8 (S:Nat->BA) (n k:Nat) (s:BA) (h:k<n):(sL S n).set k s=sL (fun i=>if i=k then s else S i) n:=by
 apply Co
 intro i;rw[Ey];by_cases hi:i<n
 .by_cases e:k=i
  .subst e;simp[sL,h]
  .simp[sL,hi,e,Cj e]
 .by_cases e:k=i
  .omega
  .rw[A5 e,Be (by rw[qX];omega),Be (by rw[qX];omega)]
theorem ZL (n:Nat):sL (fun _=>Ap) n=List.replicate n (Ag Ap):=by
 apply Co
 intro i;by_cases hi:i<n
 .rw[zB _ _ _ hi];simp[hi]
 .rw[Be (by rw[qX];omega),Be (by simp;omega)]
def jI (w:Ad) (B:Nat) (a:OA) (n cap:Nat) (S:Nat->BA):Prop:=w.ownsRow B 9 1 (V a n cap) n (sL S n)
theorem jI.at {w:Ad} {B:Nat} {a:OA} {n cap:Nat} {S:Nat->BA} (h:jI w B a n cap S):jL w a n S:=by
 intro i hi;rcases jX h with ⟨rfl,rfl,rfl⟩|⟨g,a0,rfl,_⟩
 .omega
 .exact⟨g,0,rfl,by rw[Bt,h.cellAt i (by omega),zB _ _ _ hi]⟩
theorem jI.below {w w':Ad} {B:Nat} {a:OA} {n cap:Nat} {S:Nat->BA} (h:jI w B a n cap S) (hb:Ab w w w'):jI w' B a n cap S:=jE h hb
theorem jI.congr {w:Ad} {B:Nat} {a:OA} {n cap:Nat} {S S':Nat->BA} (h:jI w B a n cap S) (e:∀ i,i<n->S i=S' i):jI w B a n cap S':=by
 unfold jI at *;rw[<-xR e];exact h
theorem jI.base {w:Ad} {B B':Nat} {a:OA} {n cap:Nat} {S:Nat->BA} (h:jI w B a n cap S) (hB:B'<=B):jI w B' a n cap S:=jY h hB
theorem jI.nil (w:Ad) (B:Nat) (S:Nat->BA):jI w B I 0 0 S:=Fm w B _ _
theorem jIq (w:Ad) (S:Nat->BA):jI (w.alloc (J #[] 9)) w (Q w 0 I) 0 0 S:=
 Cc w #[] 0 (Ay _) (by unfold Au;omega) rfl
def jCp (w w':Ad) (v:Aj) (n:Nat) (S:Nat->BA):Prop:=∃ a cap,v=V a n cap/\jI w' w a n cap S
theorem jCp.none (w w':Ad) (S:Nat->BA):jCp w w' (V I 0 0) 0 S:=⟨_,_,rfl,jI.nil _ _ _⟩
theorem vD (s:BA):(s.toList==s.toList)=Aw:=by simp
theorem jEl {s u:BA} (h:s≠u):(s.toList==u.toList)=Av:=by
 rw[ByteArray.toList_eq,ByteArray.toList_eq];simp only[beq_eq_false_iff_ne,ne_eq];intro e;exact h (ByteArray.ext (Array.toList_inj.1 e))
theorem jMb (a b:OA) (n ca cb:Nat) (S:Nat->BA) (w:Ad) (ha:jL w a n S) (hb:jL w b n S) (hn:n<=1048576):CB 176 #[V a n ca,V b n cb] w Aw:=by
 go_enter func176,ntmps176
 go_wp2
 go_loopw [5] (fun i wr=>∃ k:Nat,k<=n/\i=Ao Ar k/\Ab w w wr) (fun i _=>n-(intOf i).toNat)
 case atStart=>exact⟨0,Bi _,rfl,Az _ _⟩
 case round=>
  obtain⟨k,hk,rfl,hbel⟩:=hrel;have a0:=ha.below hbel;have b0:=hb.below hbel;by_cases hlt:k<n
  .obtain⟨ba,oa,rfl,c0⟩:=a0 k hlt;obtain⟨bb,ob,rfl,d0⟩:=b0 k hlt;have e0:(k:Int)<(n:Int):=by omega
   generalize S k=s at c0 d0;have f0:=vD s;go_wp2
   go_quiet (fail)
   go_wp2
   go_roundw
   case rel=>exact⟨k+1,by omega,by go_num,Cz hbel _⟩
   case measure=>simp[intOf];omega
  .go_wp2
   go_ret
   exact⟨rfl,hbel⟩
theorem jQy (a:OA) (n cap:Nat) (S:Nat->BA) (w:Ad) (h:jL w a n S) (hn:n<=1048576):Ak prog 174 #[V a n cap] w fun e w'=>e=Ae (V (Q w 0 I) n n)/\jI w' w (Q w 0 I) n n S/\Ab w w w':=by
 obtain⟨i0,hi,e0,f0,g0⟩:=Cg Tryz.infoStr;have KH:=hd h;clear h;go_enter func174,ntmps174
 go_wp2_with (at_make;refine Cv _ rfl _ _ 27 rfl w 9 i0 Ap 1 C3 hi e0 f0 Ar Ar _ _ n rfl rfl rfl rfl (by rw[g0];omega) (by unfold Au;omega) (Ay _) ?_;intro w1 a0 c0)
 have hb1:Ab w w w1:=(Az _ _).grown c0 (Ay _) (by simp);have ho1:jI w1 w (Q w 0 I) n n (fun i=>if i<0 then S i else Ap):=by
  have e:sL (fun i=>if i<0 then S i else Ap) n=List.replicate n (Ag Ap):=by rw[<-ZL];exact xR (fun i _=>by simp)
  unfold jI;rw[e];simpa [Value.cells,Do] using a0
 clear a0 c0;go_loopw [4] (fun i wr=>∃ k:Nat,k<=n/\i=Ao Ar k/\jI wr w (Q w 0 I) n n (fun i=>if i<k then S i else Ap)/\Ab w w wr) (fun i _=>n-(intOf i).toNat)
 case atStart=>exact⟨0,Bi _,rfl,ho1,hb1⟩
 case round=>
  obtain⟨k,hk,rfl,a0,b0⟩:=hrel;clear ho1 hb1;by_cases hlt:k<n
  .obtain⟨b,off,rfl,hc⟩:=KH.below b0 k hlt;have h0:(k:Int)<(n:Int):=by omega
   obtain⟨old,j0⟩:∃ v,wr.cell? (Q w k I)=M v:=by
    rw[Br a0 k (by omega)];exact⟨_,zB _ _ _ hlt⟩
   have k0:=B0 a0 k;have d0:=Dh a0 k (S k);rw[jA8 _ _ _ _ hlt] at d0;have HO:H (jI (wr.setCell (Q w k I) (S k)) w (Q w 0 I) n n (fun i=>if i<k+1 then S i else Ap)):=jI.congr d0.1 (fun i _=>by
    by_cases e:i=k
    .simp[e]
    .by_cases e2:i<k
     .simp[e,e2,show i<k+1 by omega]
     .simp[e,e2,show ¬ i<k+1 by omega])
   have hne:Ab w w (wr.setCell (Q w k I) (S k)):=b0.setCell (Ay _) _;clear d0 a0;go_wp2
   go_roundw
   case rel=>exact⟨k+1,by omega,by go_num,HO.out,hne⟩
   case measure=>simp[intOf];omega
  .obtain rfl:k=n:=by omega
   have HO:=hd (a0.congr (fun i hi=>A6 hi));clear a0;go_wp2
   go_ret
   exact⟨rfl,HO,b0⟩
theorem jQv (a:OA) (n cap:Nat) (S:Nat->BA) (l:Nat) (w:Ad) (h:jL w a n S) (hl:l<=1048576) (hn:n<=Au) (hL:∀ i,i<n->(S i).size<=Au):CS 172 #[V a n cap,(l:Int)] w (szF (fun i=>(S i).size) n l):=by
 unfold Au at hn hL;by_cases h1:n<=l
 .obtain⟨d,hd⟩:∃ d,l-n=d:=⟨_,rfl⟩;have hw:IntKind.i64.wrap ((l:Int)-(n:Int))=(d:Int):=by rw[A8];omega
  have h0:¬ ((d:Int)<0):=by omega
  have KL:H _:=hL;have KH:H (jL w a n S):=h;clear hL h;go_enter func172,ntmps172
  go_wp2
  go_loop [1,5] (fun p i=>∃ c q:Nat,c<=n/\q<=1048576/\H (tot (fun i=>(S i).size) c+q=d)/\p=Ao Ar (q:Int)/\i=Ao Ar (c:Int)) (fun _ i=>n-(intOf i).toNat)
  case atStart=>exact⟨0,d,Bi _,by omega,by show 0+d=d;omega,rfl,rfl⟩
  case round=>
   obtain⟨c,q,hc,hq,HT,rfl,rfl⟩:=hrel;clear hw h0;by_cases hlt:c<n
   .obtain⟨b,off,rfl,c0⟩:=KH c hlt;have e0:=KL c hlt;have f0:=jEc (fun i=>(S i).size) hlt;have j0:(c:Int)<(n:Int):=by omega
    have d0:=HT.out;obtain⟨s,hs⟩:∃ s,S c=s:=⟨_,rfl⟩;have a0:tot (fun i=>(S i).size) c+s.size<=tot (fun i=>(S i).size) n:=by rw[<-hs];exact f0
    have b0:H (tot (fun i=>(S i).size) (c+1)=tot (fun i=>(S i).size) c+s.size):=by rw[<-hs];rfl
    rw[hs] at c0 e0;obtain⟨lc,g0⟩:∃ lc,s.size=lc:=⟨_,rfl⟩;rw[g0] at e0 a0 b0;clear f0 hs;by_cases h2:lc<=q
    .obtain⟨q',k0⟩:∃ q',q-lc=q':=⟨_,rfl⟩;have i0:IntKind.i64.wrap ((q:Int)-(lc:Int))=(q':Int):=by rw[A8];omega
     have h3:¬ ((q':Int)<0):=by omega
     have HT2:H (tot (fun i=>(S i).size) (c+1)+q'=d):=by show _=_;rw[b0.out];omega
     have hq2:q'<=1048576:=by omega
     clear HT d0 a0 b0;go_wp2
     go_round
     case rel=>exact⟨c+1,q',by omega,hq2,HT2,rfl,by go_num⟩
     case measure=>simp[intOf] <;> omega
    .have i0:IntKind.i64.wrap ((q:Int)-(lc:Int))=(q:Int)-(lc:Int):=by rw[A8];omega
     have h3:(q:Int)-(lc:Int)<0:=by omega
     have HR:H (szF (fun i=>(S i).size) n l = -1):=by
      show _=_;unfold szF;rw[A5 (by omega)]
     clear HT d0 a0 b0;go_wp2
     go_ret
     exact⟨jS HR.symm,rfl⟩
   .obtain rfl:c=n:=by omega
    have HR:H (szF (fun i=>(S i).size) c l=(q:Int)):=by
     have:=HT.out
     show _=_;unfold szF;rw[A6 (by omega)];omega
    clear KH;go_wp2
    go_ret
    exact⟨jS HR.symm,rfl⟩
 .have h0:(l:Int)-(n:Int)<0:=by omega
  have hw:IntKind.i64.wrap ((l:Int)-(n:Int))=(l:Int)-(n:Int):=by rw[A8];omega
  have HR:H (szF (fun i=>(S i).size) n l = -1):=by show _=_;unfold szF;rw[A5 (by omega)]
  clear h hL;go_enter func172,ntmps172
  go_wp2
  go_ret
  exact⟨jS HR.symm,rfl⟩
def tat (s:BA) (k:Nat):Nat:=(s.data.toList.getD k 0).toNat
theorem JB (s:BA) (k:Nat):tat s k<256:=jCi _
theorem XZ (s:BA) (k:Nat) (h:k<s.size):tat s k=s[k].toNat:=by
 have h':k<s.data.toList.length:=by simpa using h
 simp only[tat,List.getD,Bj h',Er];rfl
theorem zN (s:BA) (k:Nat) (h:¬ k<s.size):tat s k=0:=by
 have h':s.data.toList.length<=k:=by simp at h |-;exact h
 simp[tat,List.getD,Be h']
theorem jQr {s u:BA} (h:s.size=u.size) (he:∀ k,tat s k=tat u k):s=u:=by
 apply ByteArray.ext
 apply Array.toList_inj.1
 apply Co
 intro k;by_cases hk:k<s.size
 .have h1:k<s.data.toList.length:=by simpa using hk
  have h2:k<u.data.toList.length:=by rw[h] at hk;simpa using hk
  have e:=he k;simp only[tat,List.getD,Bj h1,Bj h2,Er] at e;rw[Bj h1,Bj h2,UInt8.toNat_inj.1 e]
 .have h1:s.data.toList.length<=k:=by simp at hk |-;exact hk
  have h2:u.data.toList.length<=k:=by rw[h] at hk;simp at hk |-;exact hk
  rw[Be h1,Be h2]
theorem jFo (xs:List Int) (k:Nat):tat (strOfNums xs) k=(xs.getD k 0).toNat % 256:=by
 simp only[tat,strOfNums_data,List.getD,Eb];cases xs[k]? with
 | none=>rfl
 | some v=>simp
theorem jCr {x y:BA} (h:x.size=y.size):(jL4 x y).size=x.size:=by
 simp only[jL4];rw[A6 h,Fu,jFx x y h]
theorem jQw {x y:BA} (h:x.size=y.size) (k:Nat):tat (jL4 x y) k=tat x k ^^^ tat y k:=by
 by_cases hk:k<x.size
 .have a0:k<y.size:=by omega
  simp only[jL4];rw[A6 h,jFo,jIx x y k hk a0,Cy,XZ x k hk,XZ y k a0];exact Dx (Gf.xor_lt (jCi _) (jCi _))
 .rw[zN x k hk,zN y k (by omega),zN _ k (by rw[jCr h];exact hk)];rfl
theorem QF {s:BA} {a:Int} (h:isB a=Aw):(vX s a).size=s.size:=by
 simp only[vX];rw[A6 h,Fu,jBd]
theorem jEb (s:BA) {A:Nat} (hA:A<256) (k:Nat):tat (vX s (A:Int)) k=Gf.mul (tat s k) A:=by
 have h:=qW hA;by_cases hk:k<s.size
 .simp only[vX];rw[A6 h,jFo,Cy,jD0 s A k hk,Cy,XZ s k hk];exact Dx (Gf.mul_lt (jCi _) hA)
 .rw[zN s k hk,zN _ k (by rw[QF h];exact hk),Gf.zero_mul hA]
inductive Dt where
 | val (v:Aj)
 | lst (t:TypeId) (sz n:Nat) (f:Nat->Nat->Dt)
def Rd (w:Ad):Dt->Aj->Prop
 | .val v,x=>x=v
 | .lst _ sz n f,x=>∃ a cap,x=V a n cap/\∀ i,i<n->∃ b off,a=M ⟨b,off,I⟩/\∀ q,q<sz->∃ y,w.cell? ⟨b,off+(i*sz+q),I⟩=M y/\Rd w (f i q) y
theorem Rd.keep {w w':Ad} (h:∀ (p:Al) (v:Aj),w.cell? p=M v->w'.cell? p=M v):∀ {d:Dt} {v:Aj},Rd w d v->Rd w' d v:=by
 intro d;induction d with
 | val v=>intro x hx;exact hx
 | lst t sz n f ih=>
  rintro x ⟨a,cap,e,hx⟩;refine⟨a,cap,e,fun i hi=>?_⟩;obtain⟨b,off,ea,hq⟩:=hx i hi;refine⟨b,off,ea,fun q a0=>?_⟩;obtain⟨y,hy,hr⟩:=hq q a0;exact⟨y,h _ _ hy,ih i q hr⟩
theorem Rd.below {w w':Ad} {d:Dt} {v:Aj} (h:Rd w d v) (hb:Ab w w w'):Rd w' d v:=
 h.keep fun _ _ hp=>(hb.cell (A7 hp)).trans hp
theorem Rd.nil (w:Ad) (t:TypeId) (sz:Nat) (f:Nat->Nat->Dt) (a:OA) (cap:Nat):Rd w (.lst t sz 0 f) (V a 0 cap):=⟨a,cap,rfl,fun _ hi=>Bo hi (Bk _)⟩
theorem Rd.shape {w:Ad} {t:TypeId} {sz n:Nat} {f:Nat->Nat->Dt} {v:Aj} (h:Rd w (.lst t sz n f) v):∃ a cap,v=V a n cap:=by
 obtain⟨a,cap,e,_⟩:=h;exact⟨a,cap,e⟩
theorem Rd.row {w:Ad} {t:TypeId} {sz n:Nat} {f:Nat->Nat->Dt} {a:OA} {cap:Nat} (h:Rd w (.lst t sz n f) (V a n cap)) {i:Nat} (hi:i<n):∃ (b off:Nat) (y:Nat->Aj),a=M (Q b off I)/\(∀ q,q<sz->w.cell? (Q b (off+(i*sz+q)) I)=M (y q))/\∀ q,q<sz->Rd w (f i q) (y q):=by
 obtain⟨a',a0,e,hx⟩:=h;cases e;obtain⟨b,off,ea,hq⟩:=hx i hi;have:∀ q,∃ y,q<sz->w.cell? (Q b (off+(i*sz+q)) I)=M y/\Rd w (f i q) y:=fun q=>by
  by_cases h:q<sz
  .obtain⟨y,hy⟩:=hq q h;exact⟨y,fun _=>hy⟩
  .exact⟨O,fun h'=>Bo h' h⟩
 obtain⟨y,hy⟩:=Ew this;exact⟨b,off,y,ea,fun q hq=>(hy q hq).1,fun q hq=>(hy q hq).2⟩
def txD (m:Nat) (S:Nat->BA):Dt:=.lst 9 1 m fun i _=>.val (S i)
def inD (zs:List Int):Dt:=.lst 3 1 zs.length fun i _=>.val (zs.getD i 0)
theorem XX {w:Ad} {m:Nat} {S:Nat->BA} {a:OA} {cap:Nat}:Rd w (txD m S) (V a m cap)↔jL w a m S:=by
 constructor
 .rintro⟨a',a0,e,hx⟩ i hi;cases e;obtain⟨b,off,ea,hq⟩:=hx i hi;obtain⟨y,hy,hr⟩:=hq 0 (by omega);exact⟨b,off,ea,by rw[show off+i=off+(i*1+0) by omega,hy];exact D8 M hr⟩
 .intro h;refine⟨a,cap,rfl,fun i hi=>?_⟩;obtain⟨b,off,ea,hc⟩:=h i hi;refine⟨b,off,ea,fun q hq=>?_⟩;obtain rfl:q=0:=by omega
  exact⟨_,by rw[show off+(i*1+0)=off+i by omega];exact hc,rfl⟩
theorem qL {w:Ad} {zs:List Int} {a:OA} {cap:Nat}:Rd w (inD zs) (V a zs.length cap)↔jH w a zs.length zs:=by
 constructor
 .rintro⟨a',a0,e,hx⟩;refine⟨rfl,fun i hi=>?_⟩;cases e;obtain⟨b,off,ea,hq⟩:=hx i hi;obtain⟨y,hy,hr⟩:=hq 0 (by omega);exact⟨b,off,ea,by rw[show off+i=off+(i*1+0) by omega,hy];exact D8 M hr⟩
 .intro h;refine⟨a,cap,rfl,fun i hi=>?_⟩;obtain⟨b,off,ea,hc⟩:=h.2 i hi;refine⟨b,off,ea,fun q hq=>?_⟩;obtain rfl:q=0:=by omega
  exact⟨_,by rw[show off+(i*1+0)=off+i by omega];exact hc,rfl⟩
def cL (sz:Nat) (c:Nat->Nat->Aj) (n:Nat):List Aj:=(List.range (n*sz)).map fun j=>c (j / sz) (j % sz)
theorem qB (sz:Nat) (c:Nat->Nat->Aj) (n:Nat):(cL sz c n).length=n*sz:=by simp[cL]
theorem qM {sz n i q:Nat} (hi:i<n) (hq:q<sz):i*sz+q<n*sz:=by
 have:=Du sz (show i+1<=n by omega)
 rw[F0] at this;omega
theorem jP6 {sz i q:Nat} (hq:q<sz):(i*sz+q) / sz=i:=by rw[Ha,Nat.mul_add_div (by omega),Nat.div_eq_of_lt hq,Cp]
theorem jP7 {sz i q:Nat} (hq:q<sz):(i*sz+q) % sz=q:=by rw[Ha,Nat.mul_add_mod,Dx hq]
theorem vB {sz j:Nat}:j / sz*sz+j % sz=j:=by rw[Ha];exact Nat.div_add_mod j sz
theorem jU (sz:Nat) (c:Nat->Nat->Aj) (n i q:Nat) (hi:i<n) (hq:q<sz):(cL sz c n)[i*sz+q]?=M (c i q):=by
 simp[cL,qM hi hq,jP6 hq,jP7 hq]
theorem vZ {sz:Nat} {c c':Nat->Nat->Aj} {n:Nat} (h:∀ i q,i<n->q<sz->c i q=c' i q):cL sz c n=cL sz c' n:=by
 unfold cL;refine El fun j hj=>?_
 have a0:j<n*sz:=by simpa using hj
 have hs:0<sz:=by
  rcases Fy sz with e|e
  .subst e;omega
  .exact e
 exact h _ _ ((Db hs).2 a0) (E5 _ hs)
theorem jF3 (sz:Nat) (c:Nat->Nat->Aj) (n i q:Nat) (v:Aj) (hi:i<n) (hq:q<sz):(cL sz c n).set (i*sz+q) v=cL sz (fun i' q'=>if i'=i/\q'=q then v else c i' q') n:=by
 apply Co
 intro j;rw[Ey];by_cases hj:j<n*sz
 .by_cases e:i*sz+q=j
  .subst e;rw[A6 rfl,A6 (by rw[qB];exact hj),jU _ _ _ _ _ hi hq];simp
  .rw[A5 e];have hs:0<sz:=by omega
   have h1:=jU sz c n (j / sz) (j % sz) ((Db hs).2 hj) (E5 _ hs);have h2:=jU sz (fun i' q'=>if i'=i/\q'=q then v else c i' q') n (j / sz) (j % sz) ((Db hs).2 hj) (E5 _ hs);rw[vB] at h1 h2;rw[h1,h2,A5 (fun⟨e1,e2⟩=>e (by rw[<-e1,<-e2];exact vB))]
 .rw[A5 (fun e=>hj (by rw[<-e];exact qM hi hq))];rw[Be (by rw[qB];omega),Be (by rw[qB];omega)]
structure Sep (a:OA) (n sz:Nat) (G:Nat->Nat->Nat->Prop) (F:Nat->Prop):Prop where
 head:∀ x,a=M x->F x.block
 sub:∀ i q g,i<n->q<sz->G i q g->F g
 apart:∀ i q x,i<n->q<sz->a=M x->¬ G i q x.block
 each:∀ i q i' q' g,i<n->q<sz->i'<n->q'<sz->G i q g->G i' q' g->i=i'/\q=q'
def Ow (w:Ad) (B:Nat):Dt->Aj->(Nat->Prop)->Prop
 | .val v,x,_=>x=v
 | .lst t sz n f,x,F=>∃ a cap c G,x=V a n cap/\w.ownsRow B t sz (V a n cap) n (cL sz c n)/\Sep a n sz G F/\∀ i q,i<n->q<sz->Ow w B (f i q) (c i q) (G i q)
theorem Ow.mono {w:Ad} {B:Nat} {d:Dt} {v:Aj} {F F':Nat->Prop} (h:Ow w B d v F) (hF:∀ g,F g->F' g):Ow w B d v F':=by
 cases d with
 | val v=>exact h
 | lst t sz n f=>
  obtain⟨a,cap,c,G,e,ho,hs,hr⟩:=h;exact⟨a,cap,c,G,e,ho,⟨fun x hx=>hF _ (hs.head x hx),fun i q g hi hq hg=>hF _ (hs.sub i q g hi hq hg),hs.apart,hs.each⟩,hr⟩
theorem Ow.frame {w w':Ad} {B:Nat}:∀ {d:Dt} {v:Aj} {F:Nat->Prop},Ow w B d v F->(∀ g,F g->g<w.1.size->w'.1[g]?=w.1[g]?)->Ow w' B d v F:=by
 intro d;induction d with
 | val v=>intro x F hx _;exact hx
 | lst t sz n f ih=>
  rintro x F ⟨a,cap,c,G,e,ho,hs,hr⟩ hF;refine⟨a,cap,c,G,e,⟨ho.1,?_⟩,hs,fun i q hi hq=>ih i q (hr i q hi hq) fun g hg=>hF g (hs.sub i q g hi hq hg)⟩;rcases ho.2 with h'|⟨g,a0,b0,h1,h2,h3,h4⟩
  .exact .inl h'
  .refine .inr ⟨g,a0,b0,h1,h2,?_,h4⟩;have hx:a=M (Q g 0 I):=by cases h1;rfl
   rw[hF g (hs.head _ hx) (Bz.1 h3).1];exact h3
theorem Ow.below {w w':Ad} {B:Nat} {d:Dt} {v:Aj} {F:Nat->Prop} (h:Ow w B d v F) (hb:Ab w w w'):Ow w' B d v F:=h.frame fun g _ hg=>hb.block g hg
theorem Ow.base {w:Ad} {B B':Nat}:∀ {d:Dt} {v:Aj} {F:Nat->Prop},Ow w B d v F->B'<=B->Ow w B' d v F:=by
 intro d;induction d with
 | val v=>intro x F hx _;exact hx
 | lst t sz n f ih=>
  rintro x F ⟨a,cap,c,G,e,ho,hs,hr⟩ hB;exact⟨a,cap,c,G,e,jY ho hB,hs,fun i q hi hq=>ih i q (hr i q hi hq) hB⟩
theorem Ow.rd {w:Ad} {B:Nat}:∀ {d:Dt} {v:Aj} {F:Nat->Prop},Ow w B d v F->Rd w d v:=by
 intro d;induction d with
 | val v=>intro x F hx;exact hx
 | lst t sz n f ih=>
  rintro x F ⟨a,cap,c,G,e,ho,hs,hr⟩;refine⟨a,cap,e,fun i hi=>?_⟩;rcases jX ho with ⟨_,h0,_⟩|⟨g,a0,rfl,_⟩
  .omega
  .refine⟨g,0,rfl,fun q hq=>⟨c i q,?_,ih i q (hr i q hi hq)⟩⟩;rw[Bt,ho.cellAt _ (qM hi hq)];exact jU _ _ _ _ _ hi hq
theorem Ow.cut {w:Ad} {B:Nat}:∀ {d:Dt} {v:Aj} {F:Nat->Prop},Ow w B d v F->Ow w B d v (fun g=>F g/\B<=g/\g<w.1.size):=by
 intro d;induction d with
 | val v=>intro x F hx;exact hx
 | lst t sz n f ih=>
  rintro x F ⟨a,cap,c,G,e,ho,hs,hr⟩;refine⟨a,cap,c,fun i q g=>G i q g/\B<=g/\g<w.1.size,e,ho,⟨fun x hx=>⟨hs.head x hx,?_⟩,fun i q g hi hq hg=>⟨hs.sub i q g hi hq hg.1,hg.2⟩,fun i q x hi hq hx hg=>hs.apart i q x hi hq hx hg.1,fun i q i' q' g hi hq b0 c0 hg a0=>hs.each i q i' q' g hi hq b0 c0 hg.1 a0.1⟩,fun i q hi hq=>ih i q (hr i q hi hq)⟩;subst hx;exact A0 ho x.block rfl
theorem Ow.nil (w:Ad) (B:Nat) (t:TypeId) (sz:Nat) (f:Nat->Nat->Dt) (F:Nat->Prop):Ow w B (.lst t sz 0 f) (V I 0 0) F:=
 ⟨I,0,fun _ _=>O,fun _ _ _=>False,rfl,by have:=Fm w B t sz;simpa [cL] using this,⟨fun _ e=>(nomatch e),fun _ _ _ hi=>Bo hi (Bk _),fun _ _ _ hi=>Bo hi (Bk _),fun _ _ _ _ _ hi=>Bo hi (Bk _)⟩,fun _ _ hi=>Bo hi (Bk _)⟩
theorem Ow.congr {w:Ad} {B:Nat} {t:TypeId} {sz n:Nat} {f f':Nat->Nat->Dt} {v:Aj} {F:Nat->Prop} (h:Ow w B (.lst t sz n f) v F) (e:∀ i q,i<n->q<sz->f i q=f' i q):Ow w B (.lst t sz n f') v F:=by
 obtain⟨a,cap,c,G,ex,ho,hs,hr⟩:=h;exact⟨a,cap,c,G,ex,ho,hs,fun i q hi hq=>by rw[<-e i q hi hq];exact hr i q hi hq⟩
theorem xQ {w:Ad} {B:Nat} {a:OA} {m cap:Nat} {S:Nat->BA} {F:Nat->Prop} (h:jI w B a m cap S) (hF:∀ x,a=M x->F x.block):Ow w B (txD m S) (V a m cap) F:=by
 refine⟨a,cap,fun i _=>Ag (S i),fun _ _ _=>False,rfl,?_,⟨hF,fun _ _ _ _ _ h=>h.elim,fun _ _ _ _ _ _ h=>h,fun _ _ _ _ _ _ _ _ _ h=>h.elim⟩,fun _ _ _ _=>rfl⟩;have:cL 1 (fun i _=>Ag (S i)) m=sL S m:=by unfold cL sL;simp
 rw[this];exact h
theorem jEf {w:Ad} {B:Nat} {v:Aj} {m:Nat} {S:Nat->BA} {F:Nat->Prop} (h:Ow w B (txD m S) v F):∃ a cap,v=V a m cap/\jI w B a m cap S/\∀ x,a=M x->F x.block:=by
 obtain⟨a,cap,c,G,e,ho,hs,hr⟩:=h;refine⟨a,cap,e,?_,hs.head⟩;have:cL 1 c m=sL S m:=by
  unfold cL sL;simp only[G4,Nat.div_one];refine El fun j hj=>?_
  exact hr j (j % 1) (Fc.1 hj) (by omega)
 unfold jI;rw[<-this];exact ho
structure Trn (w w':Ad) (F:Nat->Prop):Prop where
 os:w'.os=w.os
 tape:w'.tape=w.tape
 output:w'.output=w.output
 size:w.1.size<=w'.1.size
 block:∀ j,j<w.1.size->¬ F j->w'.1[j]?=w.1[j]?
theorem Trn.refl (w:Ad) (F:Nat->Prop):Trn w w F:=⟨rfl,rfl,rfl,Ay _,fun _ _ _=>rfl⟩
theorem Trn.trans {w w1 w2:Ad} {F:Nat->Prop} (h:Trn w w1 F) (h2:Trn w1 w2 F):Trn w w2 F:=
 ⟨h2.os.trans h.os,h2.tape.trans h.tape,h2.output.trans h.output,By h.size h2.size,fun j hj hn=>(h2.block j (Bu hj h.size) hn).trans (h.block j hj hn)⟩
theorem Trn.mono {w w':Ad} {F F':Nat->Prop} (h:Trn w w' F) (hF:∀ g,F g->F' g):Trn w w' F':=⟨h.os,h.tape,h.output,h.size,fun j hj hn=>h.block j hj fun hf=>hn (hF j hf)⟩
theorem Trn.ofBelow {w w':Ad} (F:Nat->Prop) (h:Ab w w w'):Trn w w' F:=⟨h.os,h.tape,h.output,h.size,fun j hj _=>h.block j hj⟩
theorem Trn.below {w w':Ad} {F:Nat->Prop} {s:Nat} (h:Trn w w' F) (hs:∀ g,F g->s<=g) (hw:s<=w):Ab s w w':=⟨h.os,h.tape,h.output,h.size,fun j hj=>h.block j (by omega) fun hf=>by have:=hs j hf;omega⟩
theorem Trn.set (w:Ad) {F:Nat->Prop} {g:Nat} (j:Nat) (v:Aj) (hF:F g):Trn w (w.setCell (Q g j I) v) F:=⟨rfl,rfl,rfl,by simp,fun i _ hi=>Cn w (Q g j I) i v (fun e=>by subst e;exact hi hF)⟩
theorem Trn.ofM {w w':Ad} {B E:Nat} {F:Nat->Prop} (h:zD w w' B E) (hF:∀ g,B<=g->g<E->F g):Trn w w' F:=⟨h.os,h.tape,h.output,h.size,fun j hj hn=>h.block j hj (by
 by_cases h1:j<B
 .exact .inl h1
 .by_cases h2:E<=j
  .exact .inr h2
  .exact Bo (hF j (by omega) (by omega)) hn)⟩
theorem Ow.turned {w w':Ad} {B:Nat} {d:Dt} {v:Aj} {F F':Nat->Prop} (h:Ow w B d v F) (ht:Trn w w' F') (hd:∀ g,F g->¬ F' g):Ow w' B d v F:=h.frame fun g hg hl=>ht.block g hl (hd g hg)
def rng (a b g:Nat):Prop:=a<=g/\g<b
section
open Gs (U)
def lby (x:BitVec 64) (i:Nat):Nat:=x.toNat / 2 ^ (8*(7-i)) % 256
def lx (x:BitVec 64):List Int:=(List.range 8).map fun i=>((lby x i:Nat):Int)
theorem jJy (x:BitVec 64):(lx x).length=8:=by simp[lx]
theorem jRy (x:BitVec 64) (k:Nat) (h:k<8):(lx x).getD k 0=((lby x k:Nat):Int):=by
 simp[lx,List.getD,h]
theorem jO0 (x:BitVec 64) (j:Nat):IntKind.u8.wrap (U x / 2 ^ j)=((x.toNat / 2 ^ j % 256:Nat):Int):=by
 unfold U;rw[Di];rw[show ((x.toNat:Int) / 2 ^ j)=((x.toNat / 2 ^ j:Nat):Int) by simp];omega
theorem XT (x:BitVec 64) (w:Ad):CB 231 #[Ao .u64 (U x)] w (strOfNums (lx x)):=by
 obtain⟨i0,hi,g0,h0,j0⟩:=Cg Tryz.infoByte;obtain⟨xs,HX⟩:=nmH (lx x);have HL:H (xs.length=8):=by show _=_;rw[HX.out,jJy]
 go_enter func231,ntmps231
 go_wp2_with (at_make;refine Cv _ rfl _ _ 22 rfl w 5 i0 (Ao .u8 0) 1 Cr hi g0 h0 Ar Ar _ _ 8 rfl rfl rfl rfl (by rw[j0];omega) (by unfold Au;omega) (Ay _) ?_;intro w1 a0 b0)
 have hb1:Ab w w w1:=(Az _ _).grown b0 (Ay _) (by simp);have ho1:w1.ownsRow w 5 1 (V (Q w 0 I) 8 8) 8 ((xs.take 0++List.replicate (8-0) 0).map (Ao .u8)):=by
  simpa [Value.cells,Do] using a0
 clear a0 b0;go_loopw [8] (fun i wr=>∃ k:Nat,k<=8/\i=Ao Ar k/\wr.ownsRow w 5 1 (V (Q w 0 I) 8 8) 8 ((xs.take k++List.replicate (8-k) 0).map (Ao .u8))/\Ab w w wr) (fun i _=>8-(intOf i).toNat)
 case atStart=>exact⟨0,Bi _,rfl,ho1,hb1⟩
 case round=>
  obtain⟨k,hk,rfl,a0,c0⟩:=hrel;clear ho1 hb1;by_cases hlt:k<8
  .have HE:H (xs.getD k 0=((lby x k:Nat):Int)):=by show _=_;rw[HX.out,jRy x k hlt]
   obtain⟨old,k0⟩:∃ v,wr.cell? (Q w k I)=M v:=by
    rw[a0.cellAt k (by omega)];exact⟨_,Bj (by rw[a0.1];omega)⟩
   have n0:=a0.frozenAt k;have d0:=a0.stored k (Ao .u8 (xs.getD k 0));rw[jAy .u8 xs 8 k HL.out hlt,HE.out] at d0;have e0:Ab w w (wr.setCell (Q w k I) (Ao .u8 ((lby x k:Nat):Int))):=c0.setCell (Ay _) _;have HO:H _:=d0.1;clear d0 a0;have h7:8*(7-(k:Int))=((8*(7-k):Nat):Int):=by omega
   have f0:IntKind.u8.wrap (U x / 2 ^ (8*(7-k)))=((lby x k:Nat):Int):=jO0 x _;generalize lby x k=y at f0 HO e0;go_wp2
   exact⟨⟨k+1,by omega,by go_num,HO.out,e0⟩,by simp[intOf];omega⟩
  .have e:k=8:=by omega
   subst e;have e2:xs.take 8++List.replicate (8-8) 0=xs:=by rw[Dl (by rw[HL.out];omega)];simp
   rw[e2] at a0;have m0:=Dq (P:=prog) wr 22 5 Cr D9 w 0 8 8 xs HL (fun i hi=>by
    rw[Bt,a0.cellAt i (by omega)];simp[HL.out,hi]) 9 C6
   go_wp2
   go_ret
   exact⟨xU (by rw[HX.out]),c0⟩
theorem QY (x:BitVec 64) (w:Ad):CB 177 #[Ao .u64 (U x)] w (strOfNums (lx x)):=by
 obtain⟨i0,hi,f0,g0,h0⟩:=Cg Tryz.infoByte;obtain⟨xs,HX⟩:=nmH (lx x);have HL:H (xs.length=8):=by show _=_;rw[HX.out,jJy]
 go_enter func177,ntmps177
 go_wp2
 have ho1:(w.alloc (J #[] 5)).ownsRow w 5 1 (V (Q w 0 I) 0 0) 0 ((xs.take 0).map (Ao .u8)):=
  Cc w #[] 0 (Ay _) (by unfold Au;omega) rfl
 go_loopw [3,4] (fun v i wr=>∃ k:Nat,k<=8/\i=Ao Ar (56-8*(k:Int))/\wr.ownsRow w 5 1 v k ((xs.take k).map (Ao .u8))/\H (v≠V I 0 0)/\Ab w w wr) (fun _ i _=>(intOf i+8).toNat)
 case atStart=>exact⟨0,Bi _,rfl,ho1,by simp[H],(Az _ _).alloc (Ay _) _⟩
 case round=>
  obtain⟨k,hk,rfl,a0,HV,hbel⟩:=hrel;clear ho1;by_cases hlt:k<8
  .have h7:(56:Int)-8*(k:Int)=((8*(7-k):Nat):Int):=by omega
   have e0:IntKind.u8.wrap (U x / 2 ^ (8*(7-k)))=((lby x k:Nat):Int):=jO0 x _;have HE:H (xs.take (k+1)=xs.take k++[((lby x k:Nat):Int)]):=by
    show _=_;rw[XC xs k (by rw[HL.out];exact hlt),HX.out,jRy x k hlt]
   have HN:H ((56:Int)-8*((k+1:Nat):Int)=((8*(7-k):Nat):Int)-8):=by show _=_;omega
   generalize lby x k=y at e0 HE;obtain⟨j,hj⟩:∃ j,8*(7-k)=j:=⟨_,rfl⟩;have j0:j<=56:=by omega
   rw[h7];rw[hj] at e0 HN |-;clear h7 hj;go_wp2_with (at_builtin;refine wpList_append_own _ rfl _ _ 22 rfl w 5 i0 (Ao .u8 0) 1 1 Cr hi f0 g0 h0 rfl (by decide) _ _ _ rfl (a0.alloc _) ⟨wr.1.size,0,I⟩ 1 1 [Ao .u8 (y:Int)] rfl rfl ?c1 ?c2 ?c3 ?c4 ?c5 ?_)
   case c1=>
    intro j' u hj';match j',hj' with
    | 0,hj'=>simp at hj';subst hj';simp[Addr.add]
   case c2=>intro u hu;simp at hu;subst hu;rfl
   case c3=>unfold Au;omega
   case c4=>omega
   case c5=>have:=hbel.size;simp;omega
   .intro v' w1 c0 b0 d0;have HV':=hd d0;have HO:H (w1.ownsRow w 5 1 v' (k+1) ((xs.take (k+1)).map (Ao .u8))):=by
     rw[HE.out,Dw,Gz];exact c0
    have hb':Ab w w w1:=(hbel.alloc hbel.size _).grown b0 (by have:=hbel.size;simp;omega) (fun j hj=>(a0.lt j hj).1);clear c0 b0 d0 a0;go_wp2
    go_roundw
    case rel=>exact⟨k+1,by omega,by rw[HN.out],HO.out,HV'.out,hb'⟩
    case measure=>simp[intOf] <;> omega
  .have e:k=8:=by omega
   subst e;rw[Dl (by rw[HL.out];omega)] at a0;obtain⟨g,cap,rfl⟩:∃ g cap,u3=V (Q g 0 I) 8 cap:=by
    rcases a0.2 with h|⟨g,cap,k0,h,_⟩
    .exact Bo h.1 HV
    .exact⟨g,cap,h⟩
   have m0:=Dq (P:=prog) wr 22 5 Cr D9 g 0 8 cap xs HL (fun i hi=>by
    rw[Bt,a0.cellAt i (by omega)];simp[HL.out,hi]) 9 C6
   go_wp2
   go_ret
   exact⟨xU (by rw[HX.out]),hbel⟩
end
def jOh:Nat->Nat->BA->BA
 | 0,_,o=>o
 | f+1,k,o=>if k=0 then o else jOh f (k / 10) (strOfNums [((48+k % 10:Nat):Int)]++o)
def vT (k:Nat):BA:=if k=0 then ⟨#[109,48]⟩ else (⟨#[109]⟩:BA)++jOh k k Ap
theorem jJ9 (f:Nat) (o:BA):jOh f 0 o=o:=by cases f <;> rfl
set_option maxRecDepth 100000 in
theorem jM (k:Nat) (w:Ad) (hk:k<=1000000000):CB 98 #[(k:Int)] w (vT k):=by
 by_cases h0:k=0
 .subst h0;have HM:H (vT 0=⟨#[109,48]⟩):=rfl;go_enter func98,ntmps98
  go_wp2
  go_ret
  exact⟨xU HM.symm,Az _ _⟩
 .have j0:¬ (k:Int)<=0:=by omega
  have HM:H (vT k=(⟨#[109]⟩:BA)++jOh k k Ap):=by show _=_;unfold vT;rw[A5 h0]
  go_enter func98,ntmps98
  go_wp2
  go_loopw [0,3] (fun v0 v3 wr=>∃ (j f:Nat) (o:BA),j<=f/\o.size+j<=k/\v0=Ao Ar (j:Int)/\v3=Ag o/\H (jOh f j o=jOh k k Ap)/\Ab w w wr) (fun v0 _ _=>(intOf v0).toNat)
  case atStart=>exact⟨k,k,Ap,Ay _,by show 0+k<=k;omega,rfl,rfl,rfl,Az _ _⟩
  case round=>
   obtain⟨j,f,o,g0,k0,rfl,rfl,HG,a0⟩:=hrel;by_cases hj:j=0
   .subst hj;have HO:H (vT k=(⟨#[109]⟩:BA)++o):=by show _=_;rw[HM.out,<-HG.out,jJ9]
    have n0:o.size<=1000000000:=by omega
    go_wp2
    go_ret
    exact⟨xU HO.symm,a0⟩
   .have i0:(0:Int)<(j:Int):=by omega
    have e0:(j:Int)>0:=by omega
    obtain⟨f',rfl⟩:∃ f',f=f'+1:=⟨f-1,by omega⟩;have HG2:H (jOh f' (j / 10) (strOfNums [((48+j % 10:Nat):Int)]++o)=jOh k k Ap):=by
     show _=_;rw[<-HG.out];show _=if j=0 then _ else _
     rw[A5 hj]
    obtain⟨d,hd⟩:∃ d,48+j % 10=d:=⟨_,rfl⟩;rw[hd] at HG2;have f0:d<256:=by omega
    have e1:Int.tmod (j:Int) 10=(j:Int) % 10:=by rw[Eg (by omega)]
    have e2:Int.tdiv (j:Int) 10=(j:Int) / 10:=by rw[D0 (by omega)]
    have e3:IntKind.i64.wrap (48+(j:Int) % 10)=(d:Int):=by rw[A8];omega
    have e4:IntKind.u8.wrap (d:Int)=(d:Int):=by rw[Di];omega
    obtain⟨j',d0⟩:∃ j',j / 10=j':=⟨_,rfl⟩;have e5:(j:Int) / 10=(j':Int):=by omega
    have e6:IntKind.i64.wrap (j':Int)=(j':Int):=by rw[A8];omega
    rw[d0] at HG2;have c0:=Dq (P:=prog) (wr.alloc (J #[Ao .u8 (d:Int)] 5)) 22 5 Cr D9 wr.1.size 0 1 1 [(d:Int)] rfl (fun i hi=>by
     obtain rfl:i=0:=by omega
     rw[cell_of_one (Cq wr _)];rfl) 9 C6
    have b0:(strOfNums [(d:Int)]).size=1:=by rw[Fu];rfl
    have m0:o.size<=1000000000:=by omega
    have HS:H ((strOfNums [(d:Int)]++o).size+j'<=k):=by show _<=_;rw[Dy,b0];omega
    have hb2:Ab w w (wr.alloc (J #[Ao .u8 (d:Int)] 5)):=a0.alloc a0.size _;generalize strOfNums [(d:Int)]=sd at c0 b0 HS HG2;clear HG hd;go_wp2
    go_roundw
    case rel=>exact⟨j',f',sd++o,by omega,HS.out,by simp[*],rfl,HG2,hb2⟩
    case measure=>simp[intOf, *] <;> omega
def jIv (w:Ad) (B E:Nat) (a:OA) (n cap:Nat) (S:Nat->BA):Prop:=jI w B a n cap S/\∀ x,a=M x->B<=x.block/\x.block<E
theorem jIv.below {w w':Ad} {B E:Nat} {a:OA} {n cap:Nat} {S:Nat->BA} (h:jIv w B E a n cap S) (hb:Ab w w w'):jIv w' B E a n cap S:=⟨h.1.below hb,h.2⟩
theorem zD.ofBelow {w w':Ad} (B E:Nat) (h:Ab w w w'):zD w w' B E:=⟨h.os,h.tape,h.output,h.size,fun j hj _=>h.block j hj⟩
theorem zD.set (w:Ad) {B E g:Nat} (j:Nat) (v:Aj) (hB:B<=g) (hE:g<E):zD w (w.setCell (Q g j I) v) B E:=⟨rfl,rfl,rfl,by simp,fun i _ hi=>Cn w (Q g j I) i v (fun e=>by have e':i=g:=e;omega)⟩
abbrev pcC (r:BA) (k n i:Int) (b:BA) (v:Aj):Array Aj:=#[Ag r,Ao Ar k,Ao Ar n,Ao Ar i,Ag b,v]
abbrev pcV (r:BA) (k n i:Int) (b:BA) (v:Aj):Aj:=Ai (pcC r k n i b v)
theorem Tryz.infoPc:(Tryz.prog.info? 29).map (·.size)=M 6:=by kernel_rfl
theorem jI.setFar {w:Ad} {B g o:Nat} {a:OA} {n c:Nat} {S:Nat->BA} {v:Aj} (h:jI w B a n c S) (hB:g<B):jI (w.setCell (Q g o I) v) B a n c S:=
 jK h (jP _ _ _ _) (fun x e=>by subst e;have:=(A0 h x.block rfl).1;omega)
theorem jG (b:Nat):∀ (vs:List Aj) (o:Nat) (w:Ad) (j:Nat),j≠b->(w.setCells b o vs).1[j]?=w.1[j]?
 | [],_,_,_,_=>rfl
 | v::r,o,w,j,h=>by rw[World.setCells,jG b r (o+1) _ j h];exact Cn w ⟨b,o,I⟩ j v h
theorem jQ (b:Nat):∀ (vs:List Aj) (o:Nat) (w:Ad),(w.setCells b o vs).1.size=w.1.size
 | [],_,_=>rfl
 | v::r,o,w=>by rw[World.setCells,jQ b r (o+1) _];simp
theorem qZ (b:Nat):∀ (vs:List Aj) (o:Nat) (w:Ad),(w.setCells b o vs).os=w.os/\(w.setCells b o vs).tape=w.tape/\(w.setCells b o vs).output=w.output
 | [],_,_=>⟨rfl,rfl,rfl⟩
 | v::r,o,w=>by rw[World.setCells];exact qZ b r (o+1) _
theorem jR {B b:Nat} {w0 w:Ad} (h:Ab B w0 w) (hB:B<=b) (o:Nat) (vs:List Aj):Ab B w0 (w.setCells b o vs):=by
 obtain⟨h1,h2,h3⟩:=qZ b vs o w;exact h.trans ⟨h1,h2,h3,by rw[jQ];exact Ay _,fun j hj=>jG b vs o w j (by omega)⟩
theorem jEd (w:Ad) {F:Nat->Prop} {b:Nat} (hF:F b) (o:Nat) (vs:List Aj):Trn w (w.setCells b o vs) F:=by
 obtain⟨h1,h2,h3⟩:=qZ b vs o w;exact⟨h1,h2,h3,by rw[jQ];exact Ay _,fun j _ hn=>jG b vs o w j (fun e=>by subst e;exact hn hF)⟩
theorem qJ {B t sz g n cap i:Nat} (hi:i<n):∀ (vs:List Aj) (q0:Nat) (w:Ad) (c:Nat->Nat->Aj),q0+vs.length=sz->w.ownsRow B t sz (V g n cap) n (cL sz c n)->(w.setCells g (i*sz+q0) vs).ownsRow B t sz (V g n cap) n (cL sz (fun i' q'=>if i'=i/\q0<=q' then vs.getD (q' - q0) O else c i' q') n):=by
 intro vs;induction vs with
 | nil=>
  intro q0 w c hq ho;have e:cL sz (fun i' q'=>if i'=i/\q0<=q' then ([]:List Aj).getD (q' - q0) O else c i' q') n=cL sz c n:=vZ fun i' q' _ a0=>A5 (fun h=>by have:=h.2;simp at hq;omega)
  rw[e];exact ho
 | cons v r ih=>
  intro q0 w c hq ho;rw[World.setCells];have b0:q0<sz:=by simp at hq;omega
  have h1:=(Dh ho (i*sz+q0) v).1;rw[jF3 _ _ _ _ _ _ hi b0] at h1;have h2:=ih (q0+1) _ _ (by simp at hq;omega) h1;rw[Ef];have e:cL sz (fun i' q'=>if i'=i/\q0<=q' then (v::r).getD (q' - q0) O else c i' q') n=cL sz (fun i' q'=>if i'=i/\q0+1<=q' then r.getD (q' - (q0+1)) O else if i'=i/\q'=q0 then v else c i' q') n:=vZ fun i' q' _ a0=>by
   by_cases ei:i'=i
   .by_cases e1:q'=q0
    .subst e1;rw[A6 ⟨ei,Ay _⟩,A5 (by omega),A6 ⟨ei,rfl⟩,Nat.sub_self];rfl
    .by_cases e2:q0<=q'
     .obtain⟨k,rfl⟩:∃ k,q'=q0+1+k:=⟨q' - (q0+1),by omega⟩;rw[A6 ⟨ei,e2⟩,A6 ⟨ei,by omega⟩,show q0+1+k-q0=k+1 by omega,show q0+1+k-(q0+1)=k by omega];rfl
     .rw[A5 (by omega),A5 (by omega),A5 (by omega)]
   .simp[ei]
  rw[e];exact h2
theorem Ow.store {w:Ad} {B t sz g n cap i:Nat} {f:Nat->Nat->Dt} {F F':Nat->Prop} {vs:List Aj} {d:Nat->Dt} {H:Nat->Nat->Prop} (h:Ow w B (.lst t sz n f) (V g n cap) F) (hi:i<n) (hl:vs.length=sz) (hv:∀ q,q<sz->Ow w B (d q) (vs.getD q O) (H q)) (hH:∀ q x,q<sz->H q x->¬ F x) (hE:∀ q q' x,q<sz->q'<sz->H q x->H q' x->q=q') (hF:∀ x,F x->F' x) (d0:∀ q x,q<sz->H q x->F' x):Ow (w.setCells g (i*sz) vs) B (.lst t sz n (fun i'=>if i'=i then d else f i')) (V g n cap) F':=by
 obtain⟨a,f0,c,G,e,ho,hs,hr⟩:=h;cases e;have hg:=hs.head _ rfl;have e0:=qJ hi vs 0 w c (by omega) ho;rw[Cp] at e0;refine⟨M (Q g 0 I),cap,_,fun i' q'=>if i'=i then H q' else G i' q',rfl,e0,⟨fun x hx=>by cases hx;exact hF _ hg,fun i' q' x c0 a0 hx=>?_,fun i' q' x c0 a0 ex hx=>?_,fun i1 q1 i2 q2 x h1 h2 h3 h4 hx b0=>?_⟩,fun i' q' c0 a0=>?_⟩
 .by_cases ei:i'=i
  .simp only[ei,C0] at hx;exact d0 _ _ a0 hx
  .simp only[ei,Dj] at hx;exact hF _ (hs.sub _ _ _ c0 a0 hx)
 .cases ex;by_cases ei:i'=i
  .simp only[ei,C0] at hx;exact hH _ _ a0 hx hg
  .simp only[ei,Dj] at hx;exact hs.apart _ _ _ c0 a0 rfl hx
 .by_cases e1:i1=i
  .by_cases e2:i2=i
   .simp only[e1,e2,C0] at hx b0;exact⟨by omega,hE _ _ _ h2 h4 hx b0⟩
   .simp only[e1,e2,C0,Dj] at hx b0;exact Bo (hs.sub _ _ _ h3 h4 b0) (hH _ _ h2 hx)
  .by_cases e2:i2=i
   .simp only[e1,e2,C0,Dj] at hx b0;exact Bo (hs.sub _ _ _ h1 h2 hx) (hH _ _ h4 b0)
   .simp only[e1,e2,Dj] at hx b0;exact hs.each _ _ _ _ _ h1 h2 h3 h4 hx b0
 .have keep:∀ {dd:Dt} {v:Aj} {K:Nat->Prop},Ow w B dd v K->(∀ x,K x->x≠g)->Ow (w.setCells g (i*sz) vs) B dd v K:=fun ho hk=>ho.frame fun x hx _=>jG g vs _ w x (hk x hx)
  by_cases ei:i'=i
  .simp only[ei,true_and,Bi,C0,Nat.sub_zero];exact keep (hv q' a0) (fun x hx e=>by subst e;exact hH _ _ a0 hx hg)
  .simp only[ei,false_and,Dj];exact keep (hr i' q' c0 a0) (fun x hx e=>by subst e;exact hs.apart _ _ _ c0 a0 rfl hx)
theorem JZ {w:Ad} {B t sz g n cap:Nat} {F:Nat->Prop} {zs:List Aj} {f:Nat->Dt} (ho:w.ownsRow B t sz (V g n cap) n (cL sz (fun _ q=>zs.getD q O) n)) (hz:∀ q,q<sz->Ow w B (f q) (zs.getD q O) (fun _=>False)) (hF:F g):Ow w B (.lst t sz n (fun _=>f)) (V g n cap) F:=
 ⟨_,cap,_,fun _ _ _=>False,rfl,ho,⟨fun x e=>by cases e;exact hF,fun _ _ _ _ _ h=>h.elim,fun _ _ _ _ _ _ h=>h,fun _ _ _ _ _ _ _ _ _ h=>h.elim⟩,fun _ q _ hq=>hz q hq⟩
theorem xH {zs:List Aj} {n:Nat} (hz:0<zs.length):(madeCells zs.toArray (n*zs.length)).toList=cL zs.length (fun _ q=>zs.getD q O) n:=by
 apply Co
 intro j;by_cases hj:j<n*zs.length
 .have h1:=jU zs.length (fun _ q=>zs.getD q O) n (j / zs.length) (j % zs.length) ((Db hz).2 hj) (E5 _ hz);rw[vB] at h1;rw[h1];have hl:=E5 j hz;simp[madeCells,hj,hl]
 .rw[Be (by simp[size_madeCells];omega),Be (by rw[qB];omega)]
def nz (zs:List Int) (i:Nat):Nat:=if zs.getD i 0=0 then 0 else 1
def jSp (w:Ad) (B E:Nat) (a:OA) (n cap:Nat) (zs:List Int):Prop:=jQ4 w B (V a n cap) zs/\n=zs.length/\n<=cap/\∀ k,(V a n cap).ownBlock=M k->B<=k/\k<E
def jFw (w w':Ad) (B E:Nat):Prop:=∃ r,w.grownBy w' r/\∀ g,r=M g->B<=g/\g<E
def jW (k n:Nat):List Int:=eI (fun i=>k+i) n
theorem jHv (k n c:Nat) (zs:List Int) (hl:zs.length=n) (hc:c<n):((jW k c++zs.drop c).map (Ao Ar)).set c (Ao Ar ((k+c:Nat):Int))=(jW k (c+1)++zs.drop (c+1)).map (Ao Ar):=by
 have hm:(jW k c).length=c:=vA _ _;have e1:zs.drop c=(zs.drop c).headD 0::zs.drop (c+1):=by
  cases hd:zs.drop c with
  | nil=>
   have:=D8 List.length hd
   simp at this;omega
  | cons x xs=>
   have:zs.drop (c+1)=xs:=by rw[<-List.tail_drop,hd];rfl
   rw[this];rfl
 have e2:jW k (c+1)=jW k c++[((k+c:Nat):Int)]:=by
  unfold jW eI;rw[List.range_succ,Dw];rfl
 rw[e2,e1];simp only[Dw,Gy,G7];rw[List.set_append_right _ _ (by simp[hm])];simp[hm]
theorem jMj (a:OA) (n cap k:Nat) (w:Ad) (h:jH w a n (jW k n)) (hn:n<=1048576) (hk:k<=500000000):CS 96 #[V a n cap,(k:Int)] w (Ao Ar ((k+n:Nat):Int)):=by
 go_enter func96,ntmps96
 go_wp2
 go_loop [1,5] (fun p i=>∃ c:Nat,c<=n/\p=Ao Ar ((k+c:Nat):Int)/\i=Ao Ar c) (fun _ i=>n-(intOf i).toNat)
 case atStart=>exact⟨0,Bi _,rfl,rfl⟩
 case round=>
  obtain⟨c,hc,rfl,rfl⟩:=hrel;by_cases hlt:c<n
  .obtain⟨b,off,rfl,a0⟩:=h.2 c hlt;rw[show (jW k n).getD c 0=((k+c:Nat):Int) from JU _ _ _ hlt] at a0;have c0:(c:Int)<(n:Int):=by omega
   obtain⟨kc,b0⟩:∃ kc,k+c=kc:=⟨_,rfl⟩;rw[b0] at a0;rw[b0];go_wp2
   go_round
   case rel=>exact⟨c+1,by omega,by rw[show k+(c+1)=kc+1 by omega];go_num,by go_num⟩
   case measure=>simp[intOf] <;> omega
  .obtain rfl:c=n:=by omega
   go_wp2
   go_ret
   exact⟨rfl,rfl⟩
end Go.Proofs.YtcaejlalnjnifaaGreat
