import Derived.Test.YtcaejlalnjnifaaGreatR18
import Derived.Test.YtcaejlalnjnifaaGreatR19
set_option maxHeartbeats 8000000
set_option maxRecDepth 2000
open Go.ChangeShapes Go.WideShapes Go.ChangeAt Go.RowKit
namespace Go.Proofs.YtcaejlalnjnifaaGreat
def wkS (s:Sl):Nat:=10+s.p.m+s.ze.length+s.zr.length
theorem XD {g:Nat->Nat} {c n:Nat} (h:c<n):tot g c+g c<=tot g n:=by
 induction n with
 | zero=>omega
 | succ n ih=>
  rw[show tot g (n+1)=tot g n+g n from rfl];by_cases e:c=n
  .subst e;omega
  .have:=ih (by omega);omega
end Go.Proofs.YtcaejlalnjnifaaGreat
