import Derived.Test.YtcaejlalnjnifaaGreatP0
import Derived.ProofKit
set_option maxHeartbeats 8000000
set_option maxRecDepth 2000
open Go.ChangeShapes Go.WideShapes Go.ChangeAt Go.RowKit
namespace Go.Proofs.YtcaejlalnjnifaaGreat
namespace Gs
def U (x:BitVec 64):Int:=(x.toNat:Int)
theorem U_nat {n:Nat} (h:n<18446744073709551616):((n:Nat):Int)=U (BitVec.ofNat 64 n):=by
 unfold U;rw[BitVec.toNat_ofNat,Dw (by omega)]
theorem wrap_nat (n:Nat):IntKind.u64.wrap (n:Int)=((n % 18446744073709551616:Nat):Int):=by
 rw[Ft];omega
theorem U_add (x y:BitVec 64):IntKind.u64.wrap (U x+U y)=U (x+y):=by
 unfold U;rw[BitVec.toNat_add,<-Int.natCast_add,wrap_nat]
theorem U_xor (x y:BitVec 64):bits .xor .u64 (U x) (U y)=U (x ^^^ y):=by
 unfold U;rw[bits_xor_u64_nat _ _ x.isLt y.isLt,BitVec.toNat_xor]
theorem U_or (x y:BitVec 64):bits .or .u64 (U x) (U y)=U (x ||| y):=by
 unfold U;rw[bits_or_u64_nat _ _ x.isLt y.isLt,BitVec.toNat_or]
theorem U_shl (x:BitVec 64) (k:Nat):IntKind.u64.wrap (U x*2 ^ k)=U (x <<< k):=by
 unfold U;rw[BitVec.toNat_shiftLeft,Nat.shiftLeft_eq,<-wrap_nat];simp
theorem U_shr (x:BitVec 64) (k:Nat):U x / 2 ^ k=U (x >>> k):=by
 unfold U;rw[BitVec.toNat_ushiftRight,Nat.shiftRight_eq_div_pow];simp
def rol (x:BitVec 64) (r:Nat):BitVec 64:=x.rotateLeft r
theorem rol_bit (x:BitVec 64) (r i:Nat) (hi:i<64):(rol x r).getLsbD i=x.getLsbD ((i+(64-r % 64)) % 64):=by
 unfold rol;rw[BitVec.getLsbD_rotateLeft];by_cases h:i<r % 64
 .simp only[h,Dn,cond_true];congr 1
  omega
 .simp only[h,decide_false,cond_false,hi,Dn,Gy];congr 1
  omega
theorem rol_rol (x:BitVec 64) (r q:Nat):rol (rol x r) q=rol x (r+q):=by
 apply BitVec.eq_of_getLsbD_eq
 intro i hi;rw[rol_bit _ _ _ hi,rol_bit _ _ _ (E7 _ (by omega)),rol_bit _ _ _ hi];congr 1
 omega
theorem rol_zero (x:BitVec 64):rol x 0=x:=by
 apply BitVec.eq_of_getLsbD_eq
 intro i hi;rw[rol_bit _ _ _ hi];congr 1
 omega
def rolI (x:BitVec 64) (n:Int):BitVec 64:=rol x (n % 64).toNat
theorem rol_shifts (x:BitVec 64) (s:Nat) (hs:s<64):x <<< s ||| x >>> (64-s)=rol x s:=by
 unfold rol;rw[BitVec.rotateLeft_def,Dw hs]
theorem rol_one (x:BitVec 64) (r:Nat):rol x r <<< 1 ||| rol x r >>> 63=rol x (r+1):=by
 rw[<-rol_rol];exact rol_shifts _ 1 (by omega)
structure V4 where
 a:BitVec 64
 b:BitVec 64
 c:BitVec 64
 d:BitVec 64
def mx (v:V4):V4:=
 let a0:=v.a+v.b
 let c0:=v.c+v.d
 let b0:=rolI v.b 13 ^^^ a0
 let d0:=rolI v.d 16 ^^^ c0
 let a1:=rolI a0 32+d0
 let c1:=c0+b0
 ⟨a1,rolI b0 17 ^^^ c1,rolI c1 32,rolI d0 21 ^^^ a1⟩
def inn (v:V4) (x:BitVec 64):V4:=
 let u:=mx (mx ⟨v.a,v.b,v.c,v.d ^^^ x⟩)
 ⟨u.a ^^^ x,u.b,u.c,u.d⟩
def all4 (v:V4):BitVec 64:=v.a ^^^ v.b ^^^ v.c ^^^ v.d
def fin (v:V4):V4:=mx (mx (mx (mx ⟨v.a,v.b,v.c ^^^ 255#64,v.d⟩)))
def key (a b:BitVec 64):V4:=⟨a ^^^ 8317987319222330741#64,b ^^^ 7237128888997146477#64,a ^^^ 7816392313619706465#64,b ^^^ 8387220255154660723#64⟩
def le (T:Nat->Nat) (o:Nat):Nat->Nat
 | 0=>0
 | k+1=>le T o k+T (o+k)*256 ^ k
theorem le_lt {T:Nat->Nat} (hT:∀ i,T i<256) (o k:Nat):le T o k<256 ^ k:=by
 induction k with
 | zero=>simp[le]
 | succ k ih=>
  have:=hT (o+k)
  have h2:T (o+k)*256 ^ k<=255*256 ^ k:=D7 _ (by omega);rw[Nat.pow_succ];simp only[le];omega
theorem le_lt64 {T:Nat->Nat} (hT:∀ i,T i<256) (o k:Nat) (hk:k<=8):le T o k<18446744073709551616:=by
 have h1:=le_lt hT o k;have h2:256 ^ k<=256 ^ 8:=Nat.pow_le_pow_right (by omega) hk;have h3:(256:Nat) ^ 8=18446744073709551616:=by decide
 omega
theorem le_congr {T S:Nat->Nat} {o q:Nat} (k:Nat) (h:∀ j,j<k->T (o+j)=S (q+j)):le T o k=le S q k:=by
 induction k with
 | zero=>rfl
 | succ k ih=>simp only[le];rw[ih (fun j hj=>h j (by omega)),h k (by omega)]
theorem le_first (T:Nat->Nat) (o k:Nat):le T o (k+1)=le T (o+1) k*256+T o:=by
 induction k with
 | zero=>simp[le]
 | succ k ih=>
  rw[le,ih,le];have e:o+(k+1)=o+1+k:=by omega
  rw[e,Nat.pow_succ,Eu,<-Nat.mul_assoc];omega
theorem le_or {T:Nat->Nat} (hT:∀ i,T i<256) (o k:Nat):le T o k ||| T (o+k)*2 ^ (8*k)=le T o (k+1):=by
 have e:(2:Nat) ^ (8*k)=256 ^ k:=by rw[Nat.pow_mul]
 have h:=Nat.two_pow_add_eq_or_of_lt (i:=8*k) (b:=le T o k) (by rw[e];exact le_lt hT o k) (T (o+k));simp only[le];rw[Nat.or_comm,He (T (o+k)),<-h,e,He (256 ^ k)];omega
def blk (T:Nat->Nat) (v:V4):Nat->V4
 | 0=>v
 | q+1=>inn (blk T v q) (BitVec.ofNat 64 (le T (8*q) 8))
def lst (T:Nat->Nat) (n:Nat):BitVec 64:=BitVec.ofNat 64 (le T (8*(n / 8)) (n % 8)) ||| (BitVec.ofNat 64 (n % 256) <<< 56)
def sip (T:Nat->Nat) (a b:BitVec 64) (n:Nat):BitVec 64:=all4 (fin (inn (blk T (key a b) (n / 8)) (lst T n)))
theorem shl56 (n:Nat):BitVec.ofNat 64 n <<< 56=BitVec.ofNat 64 (n % 256) <<< 56:=by
 apply BitVec.eq_of_toNat_eq
 simp only[BitVec.toNat_shiftLeft,BitVec.toNat_ofNat,Nat.shiftLeft_eq];omega
end Gs
end Go.Proofs.YtcaejlalnjnifaaGreat
