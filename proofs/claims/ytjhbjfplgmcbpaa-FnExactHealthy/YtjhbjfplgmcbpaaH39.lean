/- Marks laid into lists of nodes and into nets, and asked for. Conditions: lists of at most 2^20. Written by mkmarkn.py. -/
import Derived.Test.YtjhbjfplgmcbpaaH31
import Derived.Test.YtjhbjfplgmcbpaaH28
import Derived.Test.YtjhbjfplgmcbpaaH35
namespace Go.Proofs.Ytjhbjfplgmcbpaa
set_option maxRecDepth 2000
open Go.ChangeShapes Go.WideShapes Go.ChangeAt Go.RowKit

/-- How many marks a node takes; a node, marked. -/
def wkN (d : Nd) : Nat := 2 + tot (fun i => wkS (d.S i)) d.n
end Go.Proofs.Ytjhbjfplgmcbpaa
/- Marks laid into nets, and asked for. Conditions: lists of at most 2^20, at most some nine million marks. -/
namespace Go.Proofs.Ytjhbjfplgmcbpaa
set_option maxRecDepth 2000
open Go.ChangeShapes Go.WideShapes Go.ChangeAt Go.RowKit

/-- A net that is ours: its three lists, no two of which share. -/
structure NtO (w : World) (B n : Nat) (N : Nat → Nd) (zs : List Int) (m : Nat) (Y : Nat → Sy) (v1 v2 v3 : Value) (F1 F2 F3 : Nat → Prop) : Prop where
  n : Ow w B (ndsD n N) v1 F1
  z : Ow w B (inD zs) v2 F2
  y : Ow w B (sysD m Y) v3 F3
  d1 : ∀ g, F1 g → ¬ F2 g
  d2 : ∀ g, F1 g → ¬ F3 g
  d3 : ∀ g, F2 g → ¬ F3 g
/-- How far the marks of a net reach. -/
def mq1 (n : Nat) (N : Nat → Nd) : Nat := 1 + tot (fun i => wkN (N i)) n
def mq2 (n : Nat) (N : Nat → Nd) (zs : List Int) : Nat := mq1 n N + zs.length
def mq3 (n : Nat) (N : Nat → Nd) (zs : List Int) (m : Nat) (Y : Nat → Sy) : Nat := ofy (mq2 n N zs) Y m
/-- What the laws' marks can bear of a net. -/
structure NtK (n : Nat) (N : Nat → Nd) (zs : List Int) (m : Nat) (Y : Nat → Sy) : Prop where
  kn : n ≤ 1048576
  kN : ∀ i, i < n → NdS (N i)
  kz : zs.length ≤ 1048576
  km : m ≤ 1048576
  kY : ∀ i, i < m → (Y i).p.m ≤ 1048576
  kq : mq3 n N zs m Y ≤ 40000000
/-- What the laws' marks can bear of a net that is handed in. -/
structure NtW (n : Nat) (N : Nat → Nd) (zs : List Int) (m : Nat) (Y : Nat → Sy) : Prop where
  kn : n ≤ 1048576
  kN : ∀ i, i < n → NdS (N i)
  kz : zs.length ≤ 1048576
  km : m ≤ 1048576
  kY : ∀ i, i < m → (Y i).p.m ≤ 1048576
  kq : mq3 n N zs m Y ≤ 40000000
theorem NtK.w {n : Nat} {N : Nat → Nd} {zs : List Int} {m : Nat} {Y : Nat → Sy} (h : NtK n N zs m Y) : NtW n N zs m Y := ⟨h.kn, h.kN, h.kz, h.km, h.kY, Nat.le_trans h.kq (by omega)⟩
end Go.Proofs.Ytjhbjfplgmcbpaa
