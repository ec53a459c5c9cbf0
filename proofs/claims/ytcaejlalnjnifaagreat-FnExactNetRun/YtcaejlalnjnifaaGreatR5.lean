import Derived.Test.YtcaejlalnjnifaaGreatR3
import Derived.Test.YtcaejlalnjnifaaGreatR2
set_option maxHeartbeats 8000000
set_option maxRecDepth 2000
open Go.RowKit renaming Hid->H,Below->Ab
open Go.Obj renaming cells->J
open Go.ChangeShapes Go.WideShapes Go.ChangeAt Go.RowKit
namespace Go.Proofs.YtcaejlalnjnifaaGreat
section
variable {w w0:World} {A:Nat} {t:TypeId} {c d:Array Value} {o o1 o2:Obj}
theorem jZ (h:H (w0=w.alloc (J c t))) (e:H (A=w.1.size)):H (Row w0 A t c):=by
 show Row _ _ _ _;rw[h.out,e.out];exact Row.new w _ _
theorem xS (h:H (w0=(w.alloc (J c t)).alloc o)) (e:H (A=w.1.size)):H (Row w0 A t c):=by
 show Row _ _ _ _;rw[h.out];exact Row.alloc (jZ rfl e) _
theorem zS (h:H (w0=((w.alloc (J c t)).alloc o).alloc o1)) (e:H (A=w.1.size)):H (Row w0 A t c):=by
 show Row _ _ _ _;rw[h.out];exact Row.alloc (xS rfl e) _
theorem zR (h:H (w0=(w.alloc o).alloc (J c t))) (e:H (A=w.1.size+1)):H (Row w0 A t c):=
 jZ h (by show A=_;rw[e.out];simp)
theorem xV (h:H (w0=((w.alloc o).alloc (J c t)).alloc o1)) (e:H (A=w.1.size+1)):H (Row w0 A t c):=
 xS h (by show A=_;rw[e.out];simp)
theorem zE (h:H (w0=((w.alloc o).alloc o1).alloc (J c t))) (e:H (A=w.1.size+1+1)):H (Row w0 A t c):=
 jZ h (by show A=_;rw[e.out];simp)
theorem bl1 (h:H (w0=w.alloc o)):Ab w w w0:=by rw[h.out];exact(Az _ _).alloc (Ay _) _
theorem bl2 (h:H (w0=(w.alloc o).alloc o1)):Ab w w w0:=by rw[h.out];exact(bl1 rfl).alloc (by simp) _
theorem bl3 (h:H (w0=((w.alloc o).alloc o1).alloc o2)):Ab w w w0:=by rw[h.out];exact(bl2 rfl).alloc (by simp;omega) _
theorem rr (h:H (w0=w.setRow A d)) (r:H (Row w A t c)):H (Row w0 A t d):=by
 show Row _ _ _ _;rw[h.out];exact r.row
end
end Go.Proofs.YtcaejlalnjnifaaGreat
