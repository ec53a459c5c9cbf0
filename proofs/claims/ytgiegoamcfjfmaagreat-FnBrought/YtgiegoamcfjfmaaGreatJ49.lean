/- What hearing makes of a node: by plain values; and of the program's hearers. Conditions: lists and texts of at most 2^20. -/
import Derived.Test.YtgiegoamcfjfmaaGreatJ46
import Derived.Test.YtgiegoamcfjfmaaGreatJ47
import Derived.Test.YtgiegoamcfjfmaaGreatJ48
import Derived.Test.YtgiegoamcfjfmaaGreatJ43
import Derived.Test.YtgiegoamcfjfmaaGreatJ41
namespace Go.Proofs.YtgiegoamcfjfmaaGreat
set_option maxRecDepth 2000
open Go.ChangeShapes Go.WideShapes Go.ChangeAt Go.RowKit

/-- How many nodes there are. -/
def nAll (f : Int) : Nat := (3 * f + 1).toNat
theorem nAll_is {f : Int} (h : 1 ≤ f ∧ f ≤ 3) : (nAll f : Int) = 3 * f + 1 := by unfold nAll; omega
/-- The slot behind an echo, behind a ready: ahead of the thresholds. -/
def hvA (S : Nat → Sl) (p : Nat) (y : Sy) : Nat → Sl := if y.k = 1 then slEc S p (putI (S p).ze y.f) else slRd S p (putI (S p).zr y.f)
/-- How far it has come. -/
def hvT (f : Int) (S : Nat → Sl) (p : Nat) (y : Sy) : Int := stI f (hvA S p y p).ze.length (hvA S p y p).zr.length
/-- Behind its being done. -/
def hvB (f : Int) (S : Nat → Sl) (p : Nat) (y : Sy) : Nat → Sl := if y.k = 1 then hvA S p y else slDn (hvA S p y) p ((hvA S p y p).o || decide (2 ≤ hvT f S p y))
/-- Whether it says that it is ready; whether it echoes. -/
def hvR (f : Int) (S : Nat → Sl) (p : Nat) (y : Sy) : Prop := 1 ≤ hvT f S p y ∧ (hvA S p y p).d = false
def hvE (id f : Int) (S : Nat → Sl) (p : Nat) (y : Sy) : Prop := (S p).e = false ∧ mineB y.r id f y.p.r y.p.k y.p.n y.p.i y.p.b y.p.m y.p.S = true
open Classical in
/-- The slots then; how much is said, and of which kind. -/
noncomputable def hvS (id f : Int) (S : Nat → Sl) (p : Nat) (y : Sy) : Nat → Sl := if y.k = 0 then (if hvE id f S p y then slGot S p y.p else S) else if hvR f S p y then slRy (hvB f S p y) p else hvB f S p y
open Classical in
noncomputable def hvM (id f : Int) (S : Nat → Sl) (p : Nat) (y : Sy) : Nat := if y.k = 0 then (if hvE id f S p y then nAll f else 0) else if hvR f S p y then nAll f else 0
def hvY (id : Int) (S : Nat → Sl) (p : Nat) (y : Sy) : Nat → Sy := syM (fun _ => syA 0 0 (S p).r 0) 0 (if y.k = 0 then 1 else 2) id (S p).r
theorem plN_lt (S : Nat → Sl) (r : ByteArray) (n : Nat) : plN S r n < hrN S r n := by
  unfold plN hrN
  cases e : plc S r n with
  | none => simp
  | some x =>
    obtain ⟨_, h, _, _⟩ := plF_some e
    simpa using h
theorem HrX.of {w W : World} {B Hb : Nat} {id f : Int} {g n cap p : Nat} {S : Nat → Sl} {sa : Option Addr} {m sc : Nat} {Y : Nat → Sy} {F1 F2 : Nat → Prop} (h : Hr W B Hb id f g n cap p S sa m sc Y F1 F2) (t : Trn w W (fun x => x = Hb ∨ F1 x ∨ F2 x)) : HrX w W B Hb id f g n cap p S m Y F1 F2 := ⟨sa, sc, F1, F2, h, t, fun _ k => .inl k, fun _ k => .inl k⟩
/-- What of the slots the hearers ask. -/
structure HvK (S : Nat → Sl) (p : Nat) (y : Sy) : Prop where
  ze : (S p).ze.length ≤ 1048575
  zr : (S p).zr.length ≤ 1048575
  se : (S p).ze.Pairwise (· ≤ ·)
  sr : (S p).zr.Pairwise (· ≤ ·)
  r : (S p).r.size ≤ 1048576
  m : y.p.m ≤ 1048576
  pr : y.p.r.size ≤ 1048576
  pb : y.p.b.size ≤ 1048576
  ps : ∀ i, i < y.p.m → (y.p.S i).size ≤ 1048576
/-- Hearing, whatever its kind. -/
theorem hear_any (id f : Int) (B Nb g n cap : Nat) (S : Nat → Sl) (y : Sy) (a9 : Option Addr) (c9 : Nat) (F1 : Nat → Prop) (w wE : World) (h : Nw w B Nb id f g n cap S F1) (hn : n ≤ 1048576) (hr : y.r.size ≤ 1048576) (hk : 0 ≤ y.k ∧ y.k ≤ 2) (hf : 1 ≤ f ∧ f ≤ 3) (hE : Below B wE w) (hT : ∀ W, Below B wE W → TxtAt W a9 y.p.m y.p.S) (hK : HvK (slF S y.r n) (plN S y.r n) y) :
    Calls Tryz.prog 75 #[.pointer (some ⟨Nb, 0, none⟩), syV y (.slice a9 y.p.m c9)] w fun e w' => ∃ v, e = .returned v ∧ Heard w w' B Nb id f (hrN S y.r n) (hvS id f (slF S y.r n) (plN S y.r n) y) (hvM id f (slF S y.r n) (plN S y.r n) y) (hvY id (slF S y.r n) (plN S y.r n) y) F1 v := by
  have hp := plN_lt S y.r n
  have h3 := nAll_is hf
  obtain ⟨S0, HS0⟩ : ∃ x, x = slF S y.r n := ⟨_, rfl⟩
  obtain ⟨p, HP⟩ : ∃ x, x = plN S y.r n := ⟨_, rfl⟩
  rw [← HS0, ← HP] at hK ⊢
  rw [← HP] at hp
  by_cases k0 : y.k = 0
  · have eY : hvY id S0 p y = syM (fun _ => syA 0 0 (S0 p).r 0) 0 1 id (S0 p).r := by unfold hvY; rw [if_pos k0]
    rw [eY]
    by_cases he : hvE id f S0 p y
    · have eS : hvS id f S0 p y = slGot S0 p y.p := by unfold hvS; rw [if_pos k0, if_pos he]
      have eM : hvM id f S0 p y = 0 + nAll f := by unfold hvM; rw [if_pos k0, if_pos he]; omega
      rw [eS, eM]
      refine hear0_any id f B Nb g n cap S (slGot S0 p y.p) (slGot S0 p y.p) y a9 c9 (0 + nAll f) (0 + nAll f) (fun _ => syA 0 0 (S0 p).r 0) (syM (fun _ => syA 0 0 (S0 p).r 0) 0 1 id (S0 p).r) _ F1 w h hn hr k0 wE hE ?_ ?_
      · intro Hb W g cap sa sc F1 F2 hW hH
        rw [← HS0, ← HP] at hH
        rw [← HP]
        exact hearPiece_y id f B Hb g _ cap p S0 sa 0 sc _ F1 F2 y a9 c9 (nAll f) W hH hf hp (hT W hW) hK.m hK.pr hK.pb hK.ps he.1 he.2 (by omega) hK.r h3
      · intro Hb W g cap sa sc F1 F2 _ hH
        rw [← HP] at hH ⊢
        refine (settle0_any id f B Hb g _ cap p _ sa _ sc _ F1 F2 _ W hH hf hp rfl).mono ?_
        rintro e w' ⟨rfl, hh, t⟩
        exact ⟨rfl, HrX.of hh t⟩
    · have eS : hvS id f S0 p y = S0 := by unfold hvS; rw [if_pos k0, if_neg he]
      have eM : hvM id f S0 p y = 0 := by unfold hvM; rw [if_pos k0, if_neg he]
      rw [eS, eM]
      have hn' : (S0 p).e = true ∨ mineB y.r id f y.p.r y.p.k y.p.n y.p.i y.p.b y.p.m y.p.S = false := by
        unfold hvE at he
        cases e1 : (S0 p).e with
        | true => exact .inl rfl
        | false =>
          right
          cases e2 : mineB y.r id f y.p.r y.p.k y.p.n y.p.i y.p.b y.p.m y.p.S with
          | false => rfl
          | true => exact absurd ⟨e1, e2⟩ he
      refine hear0_any id f B Nb g n cap S S0 S0 y a9 c9 0 0 (syM (fun _ => syA 0 0 (S0 p).r 0) 0 1 id (S0 p).r) (syM (fun _ => syA 0 0 (S0 p).r 0) 0 1 id (S0 p).r) _ F1 w h hn hr k0 wE hE ?_ ?_
      · intro Hb W g cap sa sc F1 F2 hW hH
        rw [← HS0, ← HP] at hH
        rw [← HP]
        refine (hearPiece_n id f B Hb g _ cap p S0 sa 0 sc _ F1 F2 y a9 c9 W hH hf hp (hT W hW) hK.m (fun i hi => Nat.le_trans (hK.ps i hi) (by unfold maxLen; omega)) hn').mono ?_
        rintro e w' ⟨rfl, hh, t⟩
        exact ⟨rfl, HrX.of hh t⟩
      · intro Hb W g cap sa sc F1 F2 _ hH
        rw [← HP] at hH ⊢
        refine (settle0_any id f B Hb g _ cap p _ sa _ sc _ F1 F2 _ W hH hf hp rfl).mono ?_
        rintro e w' ⟨rfl, hh, t⟩
        exact ⟨rfl, HrX.of hh t⟩
  · have eY : hvY id S0 p y = syM (fun _ => syA 0 0 (S0 p).r 0) 0 2 id (S0 p).r := by unfold hvY; rw [if_neg k0]
    rw [eY]
    by_cases k1 : y.k = 1
    · have eA : hvA S0 p y = slEc S0 p (putI (S0 p).ze y.f) := by unfold hvA; rw [if_pos k1]
      have eB : hvB f S0 p y = hvA S0 p y := by unfold hvB; rw [if_pos k1]
      have eR : (hvA S0 p y p).r = (S0 p).r := by rw [eA]; unfold slEc; simp
      have hz : (S0 p).ze.length ≤ 1048576 := by have := hK.ze; omega
      by_cases hR : hvR f S0 p y
      · have eS : hvS id f S0 p y = slRy (hvB f S0 p y) p := by unfold hvS; rw [if_neg k0, if_pos hR]
        have eM : hvM id f S0 p y = 0 + nAll f := by unfold hvM; rw [if_neg k0, if_pos hR]; omega
        rw [eS, eM, eB]
        refine hear1_any id f B Nb g n cap S (hvA S0 p y) _ y a9 c9 0 (0 + nAll f) (fun _ => syA 0 0 (S0 p).r 0) (fun _ => syA 0 0 (S0 p).r 0) (syM (fun _ => syA 0 0 (S0 p).r 0) 0 2 id (S0 p).r) F1 w h hn hr k1 wE hE ?_ ?_
        · intro Hb W g cap sa sc F1 F2 _ hH
          rw [← HS0, ← HP] at hH
          rw [← HP, eA]
          refine (hearEcho_any id f B Hb g _ cap p S0 sa 0 sc _ F1 F2 y (.slice a9 y.p.m c9) W hH hp hz hK.se).mono ?_
          rintro e w' ⟨rfl, F1', hh, t, hF⟩
          exact ⟨rfl, sa, sc, F1', F2, hh, t, hF, fun _ k => .inl k⟩
        · intro Hb W g cap sa sc F1 F2 _ hH
          rw [← HP] at hH ⊢
          have := settle1y_any id f B Hb g _ cap p (hvA S0 p y) sa 0 sc (fun _ => syA 0 0 (S0 p).r 0) F1 F2 (nAll f) _ W hH hf hp rfl hR.1 hR.2 (by omega) (by rw [eR]; exact hK.r) h3
          rw [eR] at this
          exact this
      · have eS : hvS id f S0 p y = hvB f S0 p y := by unfold hvS; rw [if_neg k0, if_neg hR]
        have eM : hvM id f S0 p y = 0 := by unfold hvM; rw [if_neg k0, if_neg hR]
        rw [eS, eM, eB]
        have hn' : hvT f S0 p y < 1 ∨ (hvA S0 p y p).d = true := by
          by_cases q : hvT f S0 p y < 1
          · exact .inl q
          · right
            cases e1 : (hvA S0 p y p).d with
            | true => rfl
            | false => exact absurd ⟨by omega, e1⟩ hR
        refine hear1_any id f B Nb g n cap S (hvA S0 p y) _ y a9 c9 0 0 (syM (fun _ => syA 0 0 (S0 p).r 0) 0 2 id (S0 p).r) (syM (fun _ => syA 0 0 (S0 p).r 0) 0 2 id (S0 p).r) _ F1 w h hn hr k1 wE hE ?_ ?_
        · intro Hb W g cap sa sc F1 F2 _ hH
          rw [← HS0, ← HP] at hH
          rw [← HP, eA]
          refine (hearEcho_any id f B Hb g _ cap p S0 sa 0 sc _ F1 F2 y (.slice a9 y.p.m c9) W hH hp hz hK.se).mono ?_
          rintro e w' ⟨rfl, F1', hh, t, hF⟩
          exact ⟨rfl, sa, sc, F1', F2, hh, t, hF, fun _ k => .inl k⟩
        · intro Hb W g cap sa sc F1 F2 _ hH
          rw [← HP] at hH ⊢
          refine (settle1n_any id f B Hb g _ cap p (hvA S0 p y) sa 0 sc _ F1 F2 _ W hH hf hp rfl hn').mono ?_
          rintro e w' ⟨rfl, hh, t⟩
          exact ⟨rfl, HrX.of hh t⟩
    · have k2 : y.k = 2 := by omega
      have eA : hvA S0 p y = slRd S0 p (putI (S0 p).zr y.f) := by unfold hvA; rw [if_neg k1]
      have eB : hvB f S0 p y = slDn (hvA S0 p y) p ((hvA S0 p y p).o || decide (2 ≤ hvT f S0 p y)) := by unfold hvB; rw [if_neg k1]
      have eR : (hvA S0 p y p).r = (S0 p).r := by rw [eA]; unfold slRd; simp
      have hz : (S0 p).zr.length ≤ 1048576 := by have := hK.zr; omega
      by_cases hR : hvR f S0 p y
      · have eS : hvS id f S0 p y = slRy (hvB f S0 p y) p := by unfold hvS; rw [if_neg k0, if_pos hR]
        have eM : hvM id f S0 p y = 0 + nAll f := by unfold hvM; rw [if_neg k0, if_pos hR]; omega
        rw [eS, eM, eB]
        refine hear2_any id f B Nb g n cap S (hvA S0 p y) _ y a9 c9 0 (0 + nAll f) (fun _ => syA 0 0 (S0 p).r 0) (fun _ => syA 0 0 (S0 p).r 0) (syM (fun _ => syA 0 0 (S0 p).r 0) 0 2 id (S0 p).r) F1 w h hn hr k2 wE hE ?_ ?_
        · intro Hb W g cap sa sc F1 F2 _ hH
          rw [← HS0, ← HP] at hH
          rw [← HP, eA]
          refine (hearReady_any id f B Hb g _ cap p S0 sa 0 sc _ F1 F2 y (.slice a9 y.p.m c9) W hH hp hz hK.sr).mono ?_
          rintro e w' ⟨rfl, F1', hh, t, hF⟩
          exact ⟨rfl, sa, sc, F1', F2, hh, t, hF, fun _ k => .inl k⟩
        · intro Hb W g cap sa sc F1 F2 _ hH
          rw [← HP] at hH ⊢
          have := settle2y_any id f B Hb g _ cap p (hvA S0 p y) sa 0 sc (fun _ => syA 0 0 (S0 p).r 0) F1 F2 (nAll f) _ W hH hf hp rfl hR.1 hR.2 (by omega) (by rw [eR]; exact hK.r) h3
          rw [eR] at this
          exact this
      · have eS : hvS id f S0 p y = hvB f S0 p y := by unfold hvS; rw [if_neg k0, if_neg hR]
        have eM : hvM id f S0 p y = 0 := by unfold hvM; rw [if_neg k0, if_neg hR]
        rw [eS, eM, eB]
        have hn' : hvT f S0 p y < 1 ∨ (hvA S0 p y p).d = true := by
          by_cases q : hvT f S0 p y < 1
          · exact .inl q
          · right
            cases e1 : (hvA S0 p y p).d with
            | true => rfl
            | false => exact absurd ⟨by omega, e1⟩ hR
        refine hear2_any id f B Nb g n cap S (hvA S0 p y) _ y a9 c9 0 0 (syM (fun _ => syA 0 0 (S0 p).r 0) 0 2 id (S0 p).r) (syM (fun _ => syA 0 0 (S0 p).r 0) 0 2 id (S0 p).r) _ F1 w h hn hr k2 wE hE ?_ ?_
        · intro Hb W g cap sa sc F1 F2 _ hH
          rw [← HS0, ← HP] at hH
          rw [← HP, eA]
          refine (hearReady_any id f B Hb g _ cap p S0 sa 0 sc _ F1 F2 y (.slice a9 y.p.m c9) W hH hp hz hK.sr).mono ?_
          rintro e w' ⟨rfl, F1', hh, t, hF⟩
          exact ⟨rfl, sa, sc, F1', F2, hh, t, hF, fun _ k => .inl k⟩
        · intro Hb W g cap sa sc F1 F2 _ hH
          rw [← HP] at hH ⊢
          refine (settle2n_any id f B Hb g _ cap p (hvA S0 p y) sa 0 sc _ F1 F2 _ W hH hf hp rfl hn').mono ?_
          rintro e w' ⟨rfl, F1', hh, t, hF⟩
          exact ⟨rfl, sa, sc, F1', F2, hh, t, hF, fun _ k => .inl k⟩
end Go.Proofs.YtgiegoamcfjfmaaGreat
/- What a node hears, in the program. Conditions: lists and texts of at most 2^20. -/
namespace Go.Proofs.YtgiegoamcfjfmaaGreat
set_option maxRecDepth 2000
open Go.ChangeShapes Go.WideShapes Go.ChangeAt Go.RowKit

/-- The answer: a node and what is said, both ours. -/
def NhA (w W : World) (id f : Int) (n : Nat) (S : Nat → Sl) (m : Nat) (Y : Nat → Sy) (e : Ending) : Prop :=
  ∃ g cap sa sc F1 F2, e = .returned (.tuple #[ndV id f (.slice (some ⟨g, 0, none⟩) n cap), .slice sa m sc]) ∧ Ow W w.heap.size (slsD n S) (.slice (some ⟨g, 0, none⟩) n cap) F1 ∧ Ow W w.heap.size (sysD m Y) (.slice sa m sc) F2 ∧ (∀ x, F1 x → ¬ F2 x) ∧ Below w.heap.size w W
structure NhB (n : Nat) (S : Nat → Sl) (y : Sy) : Prop where
  kn : n ≤ 1048576
  k : ∀ i, i < n → SlK (S i)
  r : y.r.size ≤ 1048576
  m : y.p.m ≤ 1048576
  pr : y.p.r.size ≤ 1048576
  pb : y.p.b.size ≤ 1048576
  ps : ∀ i, i < y.p.m → (y.p.S i).size ≤ 1048576
theorem SlK.ok {s : Sl} (h : SlK s) : SlN s := ⟨h.m, fun i hi => Nat.le_trans (h.tx i hi) (by unfold maxLen; omega), h.ne, h.nr⟩
set_option maxHeartbeats 8000000 in
theorem nodeHear_no1 (id f : Int) (a : Option Addr) (n cap : Nat) (S : Nat → Sl) (y : Sy) (a9 : Option Addr) (c9 : Nat) (w : World) (hT : Rd w (slsD n S) (.slice a n cap)) (hB : NhB n S y) (hno : ndB id f n S = false) :
    Calls Tryz.prog 14 #[ndV id f (.slice a n cap), syV y (.slice a9 y.p.m c9)] w fun e w' => NhA w w' id f n S 0 (fun _ => syA 0 0 y.r 0) e := by
  obtain ⟨A, HA⟩ : ∃ x, Hid (x = w.heap.size) := ⟨_, rfl⟩
  obtain ⟨C, HC⟩ : ∃ x, Hid (x = w.heap.size + 1) := ⟨_, rfl⟩
  obtain ⟨D, HD⟩ : ∃ x, Hid (x = w.heap.size + 1 + 1) := ⟨_, rfl⟩
  obtain ⟨w0, HW0⟩ : ∃ x, Hid (x = ((w.alloc (.cells #[.int .i64 id, .int .i64 f, .slice a n cap] 34)).alloc (.cells (syC y (.slice a9 y.p.m c9)) 41)).alloc (.cells #[.int .i64 0, .int .i64 0, .slice none 0 0] 34)) := ⟨_, rfl⟩
  have RA : Hid (Row w0 A 34 #[.int .i64 id, .int .i64 f, .slice a n cap]) := by show Row _ _ _ _; rw [HW0.out, HA.out]; exact Row.alloc (Row.alloc (Row.new w _ _) _) _
  have RC : Hid (Row w0 C 41 (syC y (.slice a9 y.p.m c9))) := by
    show Row _ _ _ _
    rw [HW0.out, HC.out]
    have := Row.new (w.alloc (.cells #[.int .i64 id, .int .i64 f, .slice a n cap] 34)) (syC y (.slice a9 y.p.m c9)) 41
    exact Row.alloc (by simpa using this) _
  have RD : Hid (Row w0 D 34 #[.int .i64 0, .int .i64 0, .slice none 0 0]) := by
    show Row _ _ _ _
    rw [HW0.out, HD.out]
    have := Row.new ((w.alloc (.cells #[.int .i64 id, .int .i64 f, .slice a n cap] 34)).alloc (.cells (syC y (.slice a9 y.p.m c9)) 41)) #[.int .i64 0, .int .i64 0, .slice none 0 0] 34
    simpa using this
  have hb0 : Below w.heap.size w w0 := by rw [HW0.out]; exact (((Below.refl _ _).alloc (Nat.le_refl _) _).alloc (by simp) _).alloc (by simp; omega) _
  have KB0 : Hid (Below w.heap.size w w0) := hb0
  have HL : Hid (w.heap.size ≤ A ∧ w.heap.size ≤ C ∧ w.heap.size ≤ D ∧ A < w0.heap.size ∧ C < w0.heap.size ∧ D < w0.heap.size) := ⟨by have := HA.out; omega, by have := HC.out; omega, by have := HD.out; omega, RA.out.lt, RC.out.lt, RD.out.lt⟩
  have KCP : Hid _ := copiedN_any id f a n cap S w0 (hT.below hb0) hB.kn hB.k
  have KOK : Hid (∀ W, Below w0.heap.size w0 W → Calls Tryz.prog 34 #[ndV id f (.slice a n cap)] W fun e w' => e = .returned (.bool (ndB id f n S)) ∧ Below W.heap.size W w') := fun W hW => nodeOk_any id f a n cap S W ((hT.below hb0).below hW) hB.kn (fun i hi => (hB.k i hi).ok)
  rw [hno] at KOK
  clear hT hB hb0 hno
  go_enter Tryz.func14, Tryz.ntmps14
  go_wp2_with (rw [← HW0.out, ← HD.out, ← HC.out, ← HA.out]; refine wpList_load_row (by rfl) 34 _ (by rfl) A (by rfl) 34 #[.int .i64 id, .int .i64 f, .slice a n cap] (0, 0) _ ?_ Tryz.underlying34 (by rfl) Tryz.infoNd ?_; exact RA.out)
  refine Calls.mono KCP.out ?_
  rintro e w1 ⟨g, rfl, O1, b1⟩
  obtain ⟨N2, HN2⟩ : ∃ x, Hid (x = w1.heap.size) := ⟨_, rfl⟩
  obtain ⟨w2, HW2⟩ : ∃ x, Hid (x = w1.alloc (.cells #[.int .i64 id, .int .i64 f, .slice (some ⟨g, 0, none⟩) n n] 34)) := ⟨_, rfl⟩
  have b12 : Below w1.heap.size w1 w2 := by rw [HW2.out]; exact (Below.refl _ _).alloc (Nat.le_refl _) _
  have K2 : Hid (Nw w2 w.heap.size N2 id f g n n S (rng w0.heap.size w1.heap.size) ∧ Below w0.heap.size w0 w2) := by
    have s0 := KB0.out.size
    have s1 := b1.size
    have s2 := b12.size
    have r2 : Row w2 N2 34 #[.int .i64 id, .int .i64 f, .slice (some ⟨g, 0, none⟩) n n] := by rw [HW2.out, HN2.out]; exact Row.new w1 _ _
    refine ⟨⟨r2, (O1.base s0).below b12, fun k => ?_, ⟨?_, ?_⟩, fun x k => ⟨?_, ?_⟩⟩, below2 b1 b12⟩
    · have h1 : N2 < w1.heap.size := k.2
      have := HN2.out
      omega
    · have := HN2.out; omega
    · omega
    · have h1 : w0.heap.size ≤ x := k.1
      omega
    · have h1 : x < w1.heap.size := k.2
      omega
  have KB2 : Hid (Below w0.heap.size w0 w2) := K2.out.2
  have LW : Hid (w0.heap.size ≤ w1.heap.size) := b1.size
  have RA2 : Hid (Row w2 A 34 #[.int .i64 id, .int .i64 f, .slice a n cap]) := RA.out.below KB2.out RA.out.lt
  have KO2 : Hid _ := KOK.out w2 KB2.out
  clear b1 b12 O1
  go_wp2_with (rw [← HW2.out, ← HN2.out]; refine wpList_load_row (by rfl) 34 _ (by rfl) A (by rfl) 34 #[.int .i64 id, .int .i64 f, .slice a n cap] (0, 0) _ ?_ Tryz.underlying34 (by rfl) Tryz.infoNd ?_; exact RA2.out)
  refine Calls.mono KO2.out ?_
  rintro e w3 ⟨rfl, b3⟩
  have BX : Below w2.heap.size w2 w3 := b3
  have K4 : Hid (Nw w3 w.heap.size N2 id f g n n S (rng w0.heap.size w1.heap.size) ∧ Below w0.heap.size w0 w3) := ⟨K2.out.1.below BX, below2 K2.out.2 BX⟩
  have RN4 : Hid _ := K4.out.1.r
  have RD4 := RD.out.below K4.out.2 RD.out.lt
  obtain ⟨gs, HGS⟩ : ∃ x, Hid (x = w3.heap.size) := ⟨_, rfl⟩
  obtain ⟨w5, HW5⟩ : ∃ x, Hid (x = w3.alloc (.cells #[] 41)) := ⟨_, rfl⟩
  have b5 : Below w3.heap.size w3 w5 := by rw [HW5.out]; exact (Below.refl _ _).alloc (Nat.le_refl _) _
  have RD5 : Hid (Row w5 D 34 #[.int .i64 0, .int .i64 0, .slice none 0 0]) := RD4.below b5 RD4.lt
  obtain ⟨w6, HW6⟩ : ∃ x, Hid (x = w5.setRow D #[.int .i64 id, .int .i64 f, .slice (some ⟨g, 0, none⟩) n n]) := ⟨_, rfl⟩
  have R6 : Hid (Row w6 D 34 #[.int .i64 id, .int .i64 f, .slice (some ⟨g, 0, none⟩) n n]) := by show Row _ _ _ _; rw [HW6.out]; exact RD5.out.row
  have KF : Hid (NhA w w6 id f n S 0 (fun _ => syA 0 0 y.r 0) (.returned (.tuple #[ndV id f (.slice (some ⟨g, 0, none⟩) n n), .slice (some ⟨gs, 0, none⟩) 0 0]))) := by
    have s4 := K4.out.2.size
    have hD := HL.out.2.2.2.2.2
    have o5 : Ow w5 w.heap.size (sysD 0 (fun _ => syA 0 0 y.r 0)) (.slice (some ⟨gs, 0, none⟩) 0 0) (fun x => x = gs) := by
      refine ⟨_, 0, fun _ _ => undef, fun _ _ _ => False, rfl, ?_, ⟨fun x e => by cases e; rfl, fun _ _ _ hi => absurd hi (Nat.not_lt_zero _), fun _ _ _ hi => absurd hi (Nat.not_lt_zero _), fun _ _ _ _ _ hi => absurd hi (Nat.not_lt_zero _)⟩, fun _ _ hi => absurd hi (Nat.not_lt_zero _)⟩
      have := World.ownsRow_lit (e := 41) (size := 10) (base := w.heap.size) w3 #[] 0 K4.out.1.b.2 (by unfold maxLen; omega) (by simp)
      rw [HW5.out, HGS.out]
      simpa [cL] using this
    refine ⟨g, n, some ⟨gs, 0, none⟩, 0, rng w0.heap.size w1.heap.size, (fun x => x = gs), rfl, ?_, ?_, fun x k e => ?_, ?_⟩
    · rw [HW6.out]
      exact (K4.out.1.o.below b5).frame fun x hx _ => setRow_other _ _ _ _ (fun e => by have h1 : w0.heap.size ≤ x := hx.1; omega)
    · rw [HW6.out]
      exact o5.frame fun x hx _ => setRow_other _ _ _ _ (fun e => by have h1 : x = gs := hx; have := HGS.out; omega)
    · have h1 := (K4.out.1.l1 x k).2
      have h2 : x = gs := e
      have := HGS.out
      omega
    · rw [HW6.out]
      exact belowSetRow (below2 KB0.out (below2 K4.out.2 b5)) HL.out.2.2.1 _
  clear b5 RD4
  go_wp2_with (first | (refine wpList_load_row (by rfl) 34 _ (by rfl) N2 (by rfl) 34 #[.int .i64 id, .int .i64 f, .slice (some ⟨g, 0, none⟩) n n] (0, 0) _ ?_ Tryz.underlying34 (by rfl) Tryz.infoNd ?_; exact RN4.out) | ((try rw [← HW5.out]); refine wpList_store_row (by rfl) 34 _ _ (by rfl) D #[.int .i64 id, .int .i64 f, .slice (some ⟨g, 0, none⟩) n n] (by rfl) (by rfl) 34 #[.int .i64 0, .int .i64 0, .slice none 0 0] ?_ Tryz.infoNd rfl (by simp [Value.oneCell']) ?_; exact RD5.out; rw [← HW6.out]))
  try rw [← HGS.out]
  refine bodyPost_ret (v := .tuple #[ndV id f (.slice (some ⟨g, 0, none⟩) n n), .slice (some ⟨gs, 0, none⟩) 0 0]) (by
    have p0 := R6.out.cell 0
    have p1 := R6.out.cell 1
    have p2 := R6.out.cell 2
    simp at p0 p1 p2
    simp [results, Tryz.results14, go_sem, p0, p1, p2]) rfl KF.out
set_option maxHeartbeats 8000000 in
theorem nodeHear_no2 (id f : Int) (a : Option Addr) (n cap : Nat) (S : Nat → Sl) (y : Sy) (a9 : Option Addr) (c9 : Nat) (w : World) (hT : Rd w (slsD n S) (.slice a n cap)) (hB : NhB n S y) (hyes : ndB id f n S = true) (hf : 1 ≤ f ∧ f ≤ 3) (hno : mindB id f n S y = false) :
    Calls Tryz.prog 14 #[ndV id f (.slice a n cap), syV y (.slice a9 y.p.m c9)] w fun e w' => NhA w w' id f n S 0 (fun _ => syA 0 0 y.r 0) e := by
  obtain ⟨A, HA⟩ : ∃ x, Hid (x = w.heap.size) := ⟨_, rfl⟩
  obtain ⟨C, HC⟩ : ∃ x, Hid (x = w.heap.size + 1) := ⟨_, rfl⟩
  obtain ⟨D, HD⟩ : ∃ x, Hid (x = w.heap.size + 1 + 1) := ⟨_, rfl⟩
  obtain ⟨w0, HW0⟩ : ∃ x, Hid (x = ((w.alloc (.cells #[.int .i64 id, .int .i64 f, .slice a n cap] 34)).alloc (.cells (syC y (.slice a9 y.p.m c9)) 41)).alloc (.cells #[.int .i64 0, .int .i64 0, .slice none 0 0] 34)) := ⟨_, rfl⟩
  have RA : Hid (Row w0 A 34 #[.int .i64 id, .int .i64 f, .slice a n cap]) := by show Row _ _ _ _; rw [HW0.out, HA.out]; exact Row.alloc (Row.alloc (Row.new w _ _) _) _
  have RC : Hid (Row w0 C 41 (syC y (.slice a9 y.p.m c9))) := by
    show Row _ _ _ _
    rw [HW0.out, HC.out]
    have := Row.new (w.alloc (.cells #[.int .i64 id, .int .i64 f, .slice a n cap] 34)) (syC y (.slice a9 y.p.m c9)) 41
    exact Row.alloc (by simpa using this) _
  have RD : Hid (Row w0 D 34 #[.int .i64 0, .int .i64 0, .slice none 0 0]) := by
    show Row _ _ _ _
    rw [HW0.out, HD.out]
    have := Row.new ((w.alloc (.cells #[.int .i64 id, .int .i64 f, .slice a n cap] 34)).alloc (.cells (syC y (.slice a9 y.p.m c9)) 41)) #[.int .i64 0, .int .i64 0, .slice none 0 0] 34
    simpa using this
  have hb0 : Below w.heap.size w w0 := by rw [HW0.out]; exact (((Below.refl _ _).alloc (Nat.le_refl _) _).alloc (by simp) _).alloc (by simp; omega) _
  have KB0 : Hid (Below w.heap.size w w0) := hb0
  have HL : Hid (w.heap.size ≤ A ∧ w.heap.size ≤ C ∧ w.heap.size ≤ D ∧ A < w0.heap.size ∧ C < w0.heap.size ∧ D < w0.heap.size) := ⟨by have := HA.out; omega, by have := HC.out; omega, by have := HD.out; omega, RA.out.lt, RC.out.lt, RD.out.lt⟩
  have KCP : Hid _ := copiedN_any id f a n cap S w0 (hT.below hb0) hB.kn hB.k
  have KOK : Hid (∀ W, Below w0.heap.size w0 W → Calls Tryz.prog 34 #[ndV id f (.slice a n cap)] W fun e w' => e = .returned (.bool (ndB id f n S)) ∧ Below W.heap.size W w') := fun W hW => nodeOk_any id f a n cap S W ((hT.below hb0).below hW) hB.kn (fun i hi => (hB.k i hi).ok)
  have KMI : Hid (∀ W, Below w0.heap.size w0 W → Calls Tryz.prog 74 #[ndV id f (.slice a n cap), syV y (.slice a9 y.p.m c9)] W fun e w' => e = .returned (.bool (mindB id f n S y)) ∧ Below W.heap.size W w') := fun W hW => minds_any id f a n cap S y a9 y.p.m c9 W ((hT.below hb0).below hW) hB.kn hf
  rw [hyes] at KOK
  rw [hno] at KMI
  clear hT hB hb0 hno hyes hf
  go_enter Tryz.func14, Tryz.ntmps14
  go_wp2_with (rw [← HW0.out, ← HD.out, ← HC.out, ← HA.out]; refine wpList_load_row (by rfl) 34 _ (by rfl) A (by rfl) 34 #[.int .i64 id, .int .i64 f, .slice a n cap] (0, 0) _ ?_ Tryz.underlying34 (by rfl) Tryz.infoNd ?_; exact RA.out)
  refine Calls.mono KCP.out ?_
  rintro e w1 ⟨g, rfl, O1, b1⟩
  obtain ⟨N2, HN2⟩ : ∃ x, Hid (x = w1.heap.size) := ⟨_, rfl⟩
  obtain ⟨w2, HW2⟩ : ∃ x, Hid (x = w1.alloc (.cells #[.int .i64 id, .int .i64 f, .slice (some ⟨g, 0, none⟩) n n] 34)) := ⟨_, rfl⟩
  have b12 : Below w1.heap.size w1 w2 := by rw [HW2.out]; exact (Below.refl _ _).alloc (Nat.le_refl _) _
  have K2 : Hid (Nw w2 w.heap.size N2 id f g n n S (rng w0.heap.size w1.heap.size) ∧ Below w0.heap.size w0 w2) := by
    have s0 := KB0.out.size
    have s1 := b1.size
    have s2 := b12.size
    have r2 : Row w2 N2 34 #[.int .i64 id, .int .i64 f, .slice (some ⟨g, 0, none⟩) n n] := by rw [HW2.out, HN2.out]; exact Row.new w1 _ _
    refine ⟨⟨r2, (O1.base s0).below b12, fun k => ?_, ⟨?_, ?_⟩, fun x k => ⟨?_, ?_⟩⟩, below2 b1 b12⟩
    · have h1 : N2 < w1.heap.size := k.2
      have := HN2.out
      omega
    · have := HN2.out; omega
    · omega
    · have h1 : w0.heap.size ≤ x := k.1
      omega
    · have h1 : x < w1.heap.size := k.2
      omega
  have KB2 : Hid (Below w0.heap.size w0 w2) := K2.out.2
  have LW : Hid (w0.heap.size ≤ w1.heap.size) := b1.size
  have RA2 : Hid (Row w2 A 34 #[.int .i64 id, .int .i64 f, .slice a n cap]) := RA.out.below KB2.out RA.out.lt
  have KO2 : Hid _ := KOK.out w2 KB2.out
  clear b1 b12 O1
  go_wp2_with (rw [← HW2.out, ← HN2.out]; refine wpList_load_row (by rfl) 34 _ (by rfl) A (by rfl) 34 #[.int .i64 id, .int .i64 f, .slice a n cap] (0, 0) _ ?_ Tryz.underlying34 (by rfl) Tryz.infoNd ?_; exact RA2.out)
  refine Calls.mono KO2.out ?_
  rintro e w3 ⟨rfl, b3⟩
  have KB3 : Hid (Below w2.heap.size w2 w3) := b3
  have RA3 : Hid (Row w3 A 34 #[.int .i64 id, .int .i64 f, .slice a n cap]) := RA2.out.below b3 RA2.out.lt
  have RC2 : Row w2 C 41 (syC y (.slice a9 y.p.m c9)) := RC.out.below KB2.out RC.out.lt
  have RC3 : Hid (Row w3 C 41 (syC y (.slice a9 y.p.m c9))) := RC2.below b3 RC2.lt
  have KM3 : Hid _ := KMI.out w3 (below2 KB2.out b3)
  clear b3 RC2
  have u0 := RA3.out.cell 0
  have u1 := RA3.out.cell 1
  have u2 := RA3.out.cell 2
  have v0 := RC3.out.cell 0
  have v1 := RC3.out.cell 1
  have v2 := RC3.out.cell 2
  have v3 := RC3.out.cell 3
  have v4 := RC3.out.cell 4
  have v5 := RC3.out.cell 5
  have v6 := RC3.out.cell 6
  have v7 := RC3.out.cell 7
  have v8 := RC3.out.cell 8
  have v9 := RC3.out.cell 9
  simp at u0 u1 u2 v0 v1 v2 v3 v4 v5 v6 v7 v8 v9
  go_wp2_with fail
  refine Calls.mono KM3.out ?_
  rintro e w4 ⟨rfl, b4⟩
  clear u0 u1 u2 v0 v1 v2 v3 v4 v5 v6 v7 v8 v9
  have BX : Below w2.heap.size w2 w4 := below2 KB3.out b4
  clear b4
  have K4 : Hid (Nw w4 w.heap.size N2 id f g n n S (rng w0.heap.size w1.heap.size) ∧ Below w0.heap.size w0 w4) := ⟨K2.out.1.below BX, below2 K2.out.2 BX⟩
  have RN4 : Hid _ := K4.out.1.r
  have RD4 := RD.out.below K4.out.2 RD.out.lt
  obtain ⟨gs, HGS⟩ : ∃ x, Hid (x = w4.heap.size) := ⟨_, rfl⟩
  obtain ⟨w5, HW5⟩ : ∃ x, Hid (x = w4.alloc (.cells #[] 41)) := ⟨_, rfl⟩
  have b5 : Below w4.heap.size w4 w5 := by rw [HW5.out]; exact (Below.refl _ _).alloc (Nat.le_refl _) _
  have RD5 : Hid (Row w5 D 34 #[.int .i64 0, .int .i64 0, .slice none 0 0]) := RD4.below b5 RD4.lt
  obtain ⟨w6, HW6⟩ : ∃ x, Hid (x = w5.setRow D #[.int .i64 id, .int .i64 f, .slice (some ⟨g, 0, none⟩) n n]) := ⟨_, rfl⟩
  have R6 : Hid (Row w6 D 34 #[.int .i64 id, .int .i64 f, .slice (some ⟨g, 0, none⟩) n n]) := by show Row _ _ _ _; rw [HW6.out]; exact RD5.out.row
  have KF : Hid (NhA w w6 id f n S 0 (fun _ => syA 0 0 y.r 0) (.returned (.tuple #[ndV id f (.slice (some ⟨g, 0, none⟩) n n), .slice (some ⟨gs, 0, none⟩) 0 0]))) := by
    have s4 := K4.out.2.size
    have hD := HL.out.2.2.2.2.2
    have o5 : Ow w5 w.heap.size (sysD 0 (fun _ => syA 0 0 y.r 0)) (.slice (some ⟨gs, 0, none⟩) 0 0) (fun x => x = gs) := by
      refine ⟨_, 0, fun _ _ => undef, fun _ _ _ => False, rfl, ?_, ⟨fun x e => by cases e; rfl, fun _ _ _ hi => absurd hi (Nat.not_lt_zero _), fun _ _ _ hi => absurd hi (Nat.not_lt_zero _), fun _ _ _ _ _ hi => absurd hi (Nat.not_lt_zero _)⟩, fun _ _ hi => absurd hi (Nat.not_lt_zero _)⟩
      have := World.ownsRow_lit (e := 41) (size := 10) (base := w.heap.size) w4 #[] 0 K4.out.1.b.2 (by unfold maxLen; omega) (by simp)
      rw [HW5.out, HGS.out]
      simpa [cL] using this
    refine ⟨g, n, some ⟨gs, 0, none⟩, 0, rng w0.heap.size w1.heap.size, (fun x => x = gs), rfl, ?_, ?_, fun x k e => ?_, ?_⟩
    · rw [HW6.out]
      exact (K4.out.1.o.below b5).frame fun x hx _ => setRow_other _ _ _ _ (fun e => by have h1 : w0.heap.size ≤ x := hx.1; omega)
    · rw [HW6.out]
      exact o5.frame fun x hx _ => setRow_other _ _ _ _ (fun e => by have h1 : x = gs := hx; have := HGS.out; omega)
    · have h1 := (K4.out.1.l1 x k).2
      have h2 : x = gs := e
      have := HGS.out
      omega
    · rw [HW6.out]
      exact belowSetRow (below2 KB0.out (below2 K4.out.2 b5)) HL.out.2.2.1 _
  clear b5 RD4
  go_wp2_with (first | (refine wpList_load_row (by rfl) 34 _ (by rfl) N2 (by rfl) 34 #[.int .i64 id, .int .i64 f, .slice (some ⟨g, 0, none⟩) n n] (0, 0) _ ?_ Tryz.underlying34 (by rfl) Tryz.infoNd ?_; exact RN4.out) | ((try rw [← HW5.out]); refine wpList_store_row (by rfl) 34 _ _ (by rfl) D #[.int .i64 id, .int .i64 f, .slice (some ⟨g, 0, none⟩) n n] (by rfl) (by rfl) 34 #[.int .i64 0, .int .i64 0, .slice none 0 0] ?_ Tryz.infoNd rfl (by simp [Value.oneCell']) ?_; exact RD5.out; rw [← HW6.out]))
  try rw [← HGS.out]
  refine bodyPost_ret (v := .tuple #[ndV id f (.slice (some ⟨g, 0, none⟩) n n), .slice (some ⟨gs, 0, none⟩) 0 0]) (by
    have p0 := R6.out.cell 0
    have p1 := R6.out.cell 1
    have p2 := R6.out.cell 2
    simp at p0 p1 p2
    simp [results, Tryz.results14, go_sem, p0, p1, p2]) rfl KF.out
set_option maxHeartbeats 8000000 in
theorem nodeHear_yes (id f : Int) (a : Option Addr) (n cap : Nat) (S : Nat → Sl) (y : Sy) (a9 : Option Addr) (c9 : Nat) (w : World) (hT : Rd w (slsD n S) (.slice a n cap)) (h9 : TxtAt w a9 y.p.m y.p.S) (hB : NhB n S y) (hyes : ndB id f n S = true) (hf : 1 ≤ f ∧ f ≤ 3) (hmi : mindB id f n S y = true) (hk : 0 ≤ y.k ∧ y.k ≤ 2) (hK : HvK (slF S y.r n) (plN S y.r n) y) :
    Calls Tryz.prog 14 #[ndV id f (.slice a n cap), syV y (.slice a9 y.p.m c9)] w fun e w' => NhA w w' id f (hrN S y.r n) (hvS id f (slF S y.r n) (plN S y.r n) y) (hvM id f (slF S y.r n) (plN S y.r n) y) (hvY id (slF S y.r n) (plN S y.r n) y) e := by
  obtain ⟨A, HA⟩ : ∃ x, Hid (x = w.heap.size) := ⟨_, rfl⟩
  obtain ⟨C, HC⟩ : ∃ x, Hid (x = w.heap.size + 1) := ⟨_, rfl⟩
  obtain ⟨D, HD⟩ : ∃ x, Hid (x = w.heap.size + 1 + 1) := ⟨_, rfl⟩
  obtain ⟨w0, HW0⟩ : ∃ x, Hid (x = ((w.alloc (.cells #[.int .i64 id, .int .i64 f, .slice a n cap] 34)).alloc (.cells (syC y (.slice a9 y.p.m c9)) 41)).alloc (.cells #[.int .i64 0, .int .i64 0, .slice none 0 0] 34)) := ⟨_, rfl⟩
  have RA : Hid (Row w0 A 34 #[.int .i64 id, .int .i64 f, .slice a n cap]) := by show Row _ _ _ _; rw [HW0.out, HA.out]; exact Row.alloc (Row.alloc (Row.new w _ _) _) _
  have RC : Hid (Row w0 C 41 (syC y (.slice a9 y.p.m c9))) := by
    show Row _ _ _ _
    rw [HW0.out, HC.out]
    have := Row.new (w.alloc (.cells #[.int .i64 id, .int .i64 f, .slice a n cap] 34)) (syC y (.slice a9 y.p.m c9)) 41
    exact Row.alloc (by simpa using this) _
  have RD : Hid (Row w0 D 34 #[.int .i64 0, .int .i64 0, .slice none 0 0]) := by
    show Row _ _ _ _
    rw [HW0.out, HD.out]
    have := Row.new ((w.alloc (.cells #[.int .i64 id, .int .i64 f, .slice a n cap] 34)).alloc (.cells (syC y (.slice a9 y.p.m c9)) 41)) #[.int .i64 0, .int .i64 0, .slice none 0 0] 34
    simpa using this
  have hb0 : Below w.heap.size w w0 := by rw [HW0.out]; exact (((Below.refl _ _).alloc (Nat.le_refl _) _).alloc (by simp) _).alloc (by simp; omega) _
  have KB0 : Hid (Below w.heap.size w w0) := hb0
  have HL : Hid (w.heap.size ≤ A ∧ w.heap.size ≤ C ∧ w.heap.size ≤ D ∧ A < w0.heap.size ∧ C < w0.heap.size ∧ D < w0.heap.size) := ⟨by have := HA.out; omega, by have := HC.out; omega, by have := HD.out; omega, RA.out.lt, RC.out.lt, RD.out.lt⟩
  have KCP : Hid _ := copiedN_any id f a n cap S w0 (hT.below hb0) hB.kn hB.k
  have KOK : Hid (∀ W, Below w0.heap.size w0 W → Calls Tryz.prog 34 #[ndV id f (.slice a n cap)] W fun e w' => e = .returned (.bool (ndB id f n S)) ∧ Below W.heap.size W w') := fun W hW => nodeOk_any id f a n cap S W ((hT.below hb0).below hW) hB.kn (fun i hi => (hB.k i hi).ok)
  have KMI : Hid (∀ W, Below w0.heap.size w0 W → Calls Tryz.prog 74 #[ndV id f (.slice a n cap), syV y (.slice a9 y.p.m c9)] W fun e w' => e = .returned (.bool (mindB id f n S y)) ∧ Below W.heap.size W w') := fun W hW => minds_any id f a n cap S y a9 y.p.m c9 W ((hT.below hb0).below hW) hB.kn hf
  rw [hyes] at KOK
  rw [hmi] at KMI
  have KHE : Hid (∀ Nb g F1 W, Below w.heap.size w W → Nw W w.heap.size Nb id f g n n S F1 → Calls Tryz.prog 75 #[.pointer (some ⟨Nb, 0, none⟩), syV y (.slice a9 y.p.m c9)] W fun e w' => ∃ v, e = .returned v ∧ Heard W w' w.heap.size Nb id f (hrN S y.r n) (hvS id f (slF S y.r n) (plN S y.r n) y) (hvM id f (slF S y.r n) (plN S y.r n) y) (hvY id (slF S y.r n) (plN S y.r n) y) F1 v) := fun Nb g F1 W hW hN => hear_any id f w.heap.size Nb g n n S y a9 c9 F1 W w hN hB.kn hB.r hk hf hW (fun W' hW' => h9.below hW') hK
  obtain ⟨nn, HNN⟩ : ∃ x, Hid (hrN S y.r n = x) := ⟨_, rfl⟩
  obtain ⟨mm, HMM⟩ : ∃ x, Hid (hvM id f (slF S y.r n) (plN S y.r n) y = x) := ⟨_, rfl⟩
  rw [HNN.out, HMM.out] at KHE
  rw [HNN.out, HMM.out]
  clear hT h9 hB hb0 hmi hyes hf hk hK
  go_enter Tryz.func14, Tryz.ntmps14
  go_wp2_with (rw [← HW0.out, ← HD.out, ← HC.out, ← HA.out]; refine wpList_load_row (by rfl) 34 _ (by rfl) A (by rfl) 34 #[.int .i64 id, .int .i64 f, .slice a n cap] (0, 0) _ ?_ Tryz.underlying34 (by rfl) Tryz.infoNd ?_; exact RA.out)
  refine Calls.mono KCP.out ?_
  rintro e w1 ⟨g, rfl, O1, b1⟩
  obtain ⟨N2, HN2⟩ : ∃ x, Hid (x = w1.heap.size) := ⟨_, rfl⟩
  obtain ⟨w2, HW2⟩ : ∃ x, Hid (x = w1.alloc (.cells #[.int .i64 id, .int .i64 f, .slice (some ⟨g, 0, none⟩) n n] 34)) := ⟨_, rfl⟩
  have b12 : Below w1.heap.size w1 w2 := by rw [HW2.out]; exact (Below.refl _ _).alloc (Nat.le_refl _) _
  have K2 : Hid (Nw w2 w.heap.size N2 id f g n n S (rng w0.heap.size w1.heap.size) ∧ Below w0.heap.size w0 w2) := by
    have s0 := KB0.out.size
    have s1 := b1.size
    have s2 := b12.size
    have r2 : Row w2 N2 34 #[.int .i64 id, .int .i64 f, .slice (some ⟨g, 0, none⟩) n n] := by rw [HW2.out, HN2.out]; exact Row.new w1 _ _
    refine ⟨⟨r2, (O1.base s0).below b12, fun k => ?_, ⟨?_, ?_⟩, fun x k => ⟨?_, ?_⟩⟩, below2 b1 b12⟩
    · have h1 : N2 < w1.heap.size := k.2
      have := HN2.out
      omega
    · have := HN2.out; omega
    · omega
    · have h1 : w0.heap.size ≤ x := k.1
      omega
    · have h1 : x < w1.heap.size := k.2
      omega
  have KB2 : Hid (Below w0.heap.size w0 w2) := K2.out.2
  have LW : Hid (w0.heap.size ≤ w1.heap.size) := b1.size
  have RA2 : Hid (Row w2 A 34 #[.int .i64 id, .int .i64 f, .slice a n cap]) := RA.out.below KB2.out RA.out.lt
  have KO2 : Hid _ := KOK.out w2 KB2.out
  clear b1 b12 O1
  go_wp2_with (rw [← HW2.out, ← HN2.out]; refine wpList_load_row (by rfl) 34 _ (by rfl) A (by rfl) 34 #[.int .i64 id, .int .i64 f, .slice a n cap] (0, 0) _ ?_ Tryz.underlying34 (by rfl) Tryz.infoNd ?_; exact RA2.out)
  refine Calls.mono KO2.out ?_
  rintro e w3 ⟨rfl, b3⟩
  have KB3 : Hid (Below w2.heap.size w2 w3) := b3
  have RA3 : Hid (Row w3 A 34 #[.int .i64 id, .int .i64 f, .slice a n cap]) := RA2.out.below b3 RA2.out.lt
  have RC2 : Row w2 C 41 (syC y (.slice a9 y.p.m c9)) := RC.out.below KB2.out RC.out.lt
  have RC3 : Hid (Row w3 C 41 (syC y (.slice a9 y.p.m c9))) := RC2.below b3 RC2.lt
  have KM3 : Hid _ := KMI.out w3 (below2 KB2.out b3)
  clear b3 RC2
  have u0 := RA3.out.cell 0
  have u1 := RA3.out.cell 1
  have u2 := RA3.out.cell 2
  have v0 := RC3.out.cell 0
  have v1 := RC3.out.cell 1
  have v2 := RC3.out.cell 2
  have v3 := RC3.out.cell 3
  have v4 := RC3.out.cell 4
  have v5 := RC3.out.cell 5
  have v6 := RC3.out.cell 6
  have v7 := RC3.out.cell 7
  have v8 := RC3.out.cell 8
  have v9 := RC3.out.cell 9
  simp at u0 u1 u2 v0 v1 v2 v3 v4 v5 v6 v7 v8 v9
  go_wp2_with fail
  refine Calls.mono KM3.out ?_
  rintro e w4 ⟨rfl, b4⟩
  clear u0 u1 u2 v0 v1 v2 v3 v4 v5 v6 v7 v8 v9
  have BX : Below w2.heap.size w2 w4 := below2 KB3.out b4
  have RC4 : Hid (Row w4 C 41 (syC y (.slice a9 y.p.m c9))) := RC3.out.below b4 RC3.out.lt
  have K4 : Hid (Nw w4 w.heap.size N2 id f g n n S (rng w0.heap.size w1.heap.size) ∧ Below w0.heap.size w0 w4) := ⟨K2.out.1.below BX, below2 K2.out.2 BX⟩
  have RD4 : Hid (Row w4 D 34 #[.int .i64 0, .int .i64 0, .slice none 0 0]) := RD.out.below K4.out.2 RD.out.lt
  have KC4 : Hid _ := KHE.out N2 g (rng w0.heap.size w1.heap.size) w4 (below2 KB0.out K4.out.2) K4.out.1
  have LDN : Hid (D ≠ N2) := by
    have h1 := HL.out.2.2.2.2.2
    have h2 := K2.out.2.size
    have h3 := HN2.out
    have h4 := K2.out.1.r.lt
    show D ≠ N2
    intro e
    have h5 : w0.heap.size ≤ w1.heap.size := LW.out
    omega
  clear b4 BX
  go_wp2_with (refine wpList_load_row (by rfl) 41 _ (by rfl) C (by rfl) 41 (syC y (.slice a9 y.p.m c9)) (0, 0) _ ?_ Tryz.underlying41 (by rfl) Tryz.infoSy ?_; exact RC4.out)
  refine Calls.mono KC4.out ?_
  rintro e w5 ⟨v, rfl, g5, cap5, sa5, sc5, F15, F25, rfl, hN5, hO5, hd5, hn5, t5, hF15, hF25⟩
  have RN5 : Hid _ := hN5.r
  have RD5 : Hid (Row w5 D 34 #[.int .i64 0, .int .i64 0, .slice none 0 0]) := (t5.block D RD4.out.lt (fun k => by
    rcases k with k | k
    · exact LDN.out k
    · have h1 : w0.heap.size ≤ D := k.1
      have := HL.out.2.2.2.2.2
      omega)).trans RD4.out
  obtain ⟨w6, HW6⟩ : ∃ x, Hid (x = w5.setRow D #[.int .i64 id, .int .i64 f, .slice (some ⟨g5, 0, none⟩) nn cap5]) := ⟨_, rfl⟩
  have R6 : Hid (Row w6 D 34 #[.int .i64 id, .int .i64 f, .slice (some ⟨g5, 0, none⟩) nn cap5]) := by show Row _ _ _ _; rw [HW6.out]; exact RD5.out.row
  have KF : Hid (NhA w w6 id f nn (hvS id f (slF S y.r n) (plN S y.r n) y) mm (hvY id (slF S y.r n) (plN S y.r n) y) (.returned (.tuple #[ndV id f (.slice (some ⟨g5, 0, none⟩) nn cap5), .slice sa5 mm sc5]))) := by
    have hD := HL.out.2.2.2.2.2
    have hwD := HL.out.2.2.1
    have s4 := K4.out.2.size
    have lw := LW.out
    refine ⟨g5, cap5, sa5, sc5, F15, F25, rfl, ?_, ?_, hd5, ?_⟩
    · rw [HW6.out]
      exact hN5.o.frame fun x hx _ => setRow_other _ _ _ _ (fun e => by
        rcases hF15 x hx with k | k
        · have h1 : w0.heap.size ≤ x := k.1
          omega
        · omega)
    · rw [HW6.out]
      exact hO5.frame fun x hx _ => setRow_other _ _ _ _ (fun e => by have := (hF25 x hx).1; omega)
    · rw [HW6.out]
      refine belowSetRow ((below2 KB0.out K4.out.2).trans (t5.below (fun x k => ?_) K4.out.1.b.2)) hwD _
      rcases k with k | k
      · rw [k]; exact K4.out.1.b.1
      · exact (K4.out.1.l1 x k).1
  clear hN5 hO5 hd5 hn5 t5 hF15 hF25
  go_wp2_with (first | (refine wpList_load_row (by rfl) 34 _ (by rfl) N2 (by rfl) 34 #[.int .i64 id, .int .i64 f, .slice (some ⟨g5, 0, none⟩) nn cap5] (0, 0) _ ?_ Tryz.underlying34 (by rfl) Tryz.infoNd ?_; exact RN5.out) | (refine wpList_store_row (by rfl) 34 _ _ (by rfl) D #[.int .i64 id, .int .i64 f, .slice (some ⟨g5, 0, none⟩) nn cap5] (by rfl) (by rfl) 34 #[.int .i64 0, .int .i64 0, .slice none 0 0] ?_ Tryz.infoNd rfl (by simp [Value.oneCell']) ?_; exact RD5.out; rw [← HW6.out]))
  refine bodyPost_ret (v := .tuple #[ndV id f (.slice (some ⟨g5, 0, none⟩) nn cap5), .slice sa5 mm sc5]) (by
    have p0 := R6.out.cell 0
    have p1 := R6.out.cell 1
    have p2 := R6.out.cell 2
    simp at p0 p1 p2
    simp [results, Tryz.results14, go_sem, p0, p1, p2]) rfl KF.out
end Go.Proofs.YtgiegoamcfjfmaaGreat
