/- For every input: the function ArchiveStart of the program answers as its model does, whatever F and the liars are; it leaves the list as it was, and its answer owns its memory. No condition. -/
import Derived.Test.YtpomffkpjldloaaH46
import Derived.Test.YtpomffkpjldloaaH12
namespace Go.Proofs.Ytpomffkpjldloaa
set_option maxRecDepth 2000
open Go.ChangeShapes Go.WideShapes Go.ChangeAt Go.RowKit
/-- What stands while the law is gone through: the answer's block, and its lists. -/
structure AsF (w4 : World) (bg G : Nat) (fx : Int) (m : Nat) (N : Nat → Nd) (zs : List Int) (Y : Nat → Sy) (b1 b2 b3 b4 b5 : Option Addr) (d1 l2 d2 d3 : Nat) (W : World) : Prop where
  bw : Below w4.heap.size w4 W
  rg : Row W G 30 #[.int .i64 fx, .slice b1 m d1, .slice b2 l2 d2, .slice b3 0 d3, .slice b4 0 0, .slice b5 0 0]
  og : ∃ F1 F2 F3, NtO W bg m N zs 0 Y (.slice b1 m d1) (.slice b2 l2 d2) (.slice b3 0 d3) F1 F2 F3 ∧ ∀ g, F1 g ∨ F2 g ∨ F3 g → bg ≤ g ∧ g < G
section
variable {w4 W W' : World} {bg G : Nat} {fx : Int} {m : Nat} {N N' : Nat → Nd} {zs zs' : List Int} {Y Y' : Nat → Sy} {b1 b2 b3 b4 b5 : Option Addr} {d1 l2 d2 d3 : Nat}
theorem AsF.below (h : AsF w4 bg G fx m N zs Y b1 b2 b3 b4 b5 d1 l2 d2 d3 W) (hb : Below W.heap.size W W') : AsF w4 bg G fx m N zs Y b1 b2 b3 b4 b5 d1 l2 d2 d3 W' := by
  obtain ⟨F1, F2, F3, o, hd⟩ := h.og
  exact ⟨below2 h.bw hb, h.rg.below hb h.rg.lt, F1, F2, F3, o.below hb, hd⟩
theorem AsF.turnX {b e : Nat} (h : AsF w4 bg G fx m N zs Y b1 b2 b3 b4 b5 d1 l2 d2 d3 W) (ht : Turned W W' b e) (hb : w4.heap.size ≤ b) (he : e ≤ bg) (hG : bg ≤ G) : AsF w4 bg G fx m N zs Y b1 b2 b3 b4 b5 d1 l2 d2 d3 W' := by
  obtain ⟨F1, F2, F3, o, hd⟩ := h.og
  obtain ⟨r, hg, hr⟩ := ht
  have ht : Trn W W' (rng b e) := ⟨hg.os, hg.tape, hg.output, hg.size, fun j hj hn => hg.block j hj (fun e' => hn (hr j e'.symm))⟩
  have hn : ∀ g, F1 g ∨ F2 g ∨ F3 g → ¬ rng b e g := fun g hg' k => by have := hd g hg'; have := k.2; omega
  refine ⟨?_, (ht.block G h.rg.lt (fun k => by have := k.2; omega)).trans h.rg, F1, F2, F3, ⟨o.n.turned ht (fun g hg' => hn g (.inl hg')), o.z.turned ht (fun g hg' => hn g (.inr (.inl hg'))), o.y.turned ht (fun g hg' => hn g (.inr (.inr hg'))), o.d1, o.d2, o.d3⟩, hd⟩
  exact h.bw.trans (ht.below (fun g k => by have := k.1; omega) h.bw.size)
theorem AsF.turnG {F1 F2 F3 : Nat → Prop} (h : AsF w4 bg G fx m N zs Y b1 b2 b3 b4 b5 d1 l2 d2 d3 W) (ht : Trn W W' (fun x => F1 x ∨ F2 x ∨ F3 x)) (hF : ∀ g, F1 g ∨ F2 g ∨ F3 g → bg ≤ g ∧ g < G) (o : NtO W' bg m N' zs' 0 Y' (.slice b1 m d1) (.slice b2 l2 d2) (.slice b3 0 d3) F1 F2 F3) (hb : w4.heap.size ≤ bg) : AsF w4 bg G fx m N' zs' Y' b1 b2 b3 b4 b5 d1 l2 d2 d3 W' :=
  ⟨h.bw.trans (ht.below (fun g k => by have := hF g k; omega) h.bw.size), (ht.block G h.rg.lt (fun k => by have := hF G k; omega)).trans h.rg, F1, F2, F3, o, hF⟩
end
set_option maxHeartbeats 8000000 in
theorem walk_FnExactArchiveStart (f : Int) (a0 : Option Addr) (len0 cap0 : Nat) (z0 : List Int) (w : World) (_w0 : (Lit.int .i64 f).wf = true) (w1 : IsRow .i64 w a0 len0 cap0 z0) :
    Calls Try.prog 3 #[.int .i64 f, .slice a0 len0 cap0] w fun e w' => e = .returned (.bool true) ∧ Below w.heap.size w w' := by
  clear _w0
  obtain ⟨_, hA0, _⟩ := w1.ints
  clear w1
  by_cases h0 : 1048576 < len0
  · have h0' : (len0 : Int) > 1048576 := by omega
    go_enter Try.func3, Try.ntmps3
    go_wp2
    go_ret
    exact ⟨rfl, Below.refl _ _⟩
  have h0' : ¬ (len0 : Int) > 1048576 := by omega
  have n0 : len0 ≤ 1048576 := by omega
  generalize z0.take len0 = zs at hA0
  have HL0 : Hid (zs.length = len0) := hA0.1
  have KRd : Hid (∀ W, Below w.heap.size w W → IntsAt W a0 len0 zs) := fun W hW => hA0.below hW
  have KTo : Hid (∀ W, IntsAt W a0 len0 zs → Calls Try.prog 5 #[.slice a0 len0 cap0] W _) := fun W hW => toIntS_any a0 len0 cap0 zs W hW n0
  obtain ⟨fx, HFX⟩ : ∃ x, Hid (nsF f zs = x) := ⟨_, rfl⟩
  obtain ⟨mx, HMX⟩ : ∃ x, Hid (nsM f zs = x) := ⟨_, rfl⟩
  obtain ⟨zx, HZX⟩ : ∃ x, Hid (nsZ f zs = x) := ⟨_, rfl⟩
  obtain ⟨ok, HOK⟩ : ∃ x, Hid (nsB f zs = x) := ⟨_, rfl⟩
  have HK : Hid (NtK mx (nd0 f) zx 0 (fun _ => syO)) := by have := ns_k f zs; rw [HMX.out, HZX.out] at this; exact this
  have hff : (ok != ok) = false := by simp
  have KSp : Hid (∀ g W, IntsAt W (some ⟨g, 0, none⟩) len0 zs → Calls Try.prog 4 #[.int .i64 f, .slice (some ⟨g, 0, none⟩) len0 len0] W fun e w' => ∃ a1 c1 a2 c2, e = .returned (.tuple #[arV fx (.slice a1 mx c1) (.slice a2 zx.length c2) (.slice none 0 0) (.slice none 0 0) (.slice none 0 0), .bool ok]) ∧ Rd w' (ndsD mx (nd0 f)) (.slice a1 mx c1) ∧ IntsAt w' a2 zx.length zx ∧ Below W.heap.size W w') := fun g W hW => by
    have := sArcStart_any f (some ⟨g, 0, none⟩) len0 zs W (by rw [HL0.out]; exact hW) (by rw [HL0.out]; exact n0)
    rw [HFX.out, HMX.out, HZX.out, HOK.out, HL0.out] at this
    exact this
  have KIm : Hid (∀ g W, IntsAt W (some ⟨g, 0, none⟩) len0 zs → Calls Try.prog 6 #[.int .i64 f, .slice (some ⟨g, 0, none⟩) len0 len0] W fun e w' => ∃ b1 d1 b2 d2 b3 d3 b4 b5 F1 F2 F3, e = .returned (.tuple #[arV fx (.slice b1 mx d1) (.slice b2 zx.length d2) (.slice b3 0 d3) (.slice b4 0 0) (.slice b5 0 0), .bool ok]) ∧ NtO w' W.heap.size mx (nd0 f) zx 0 (fun _ => syO) (.slice b1 mx d1) (.slice b2 zx.length d2) (.slice b3 0 d3) F1 F2 F3 ∧ Below W.heap.size W w') := fun g W hW => by
    have := arcStart_any f (some ⟨g, 0, none⟩) len0 zs W (by rw [HL0.out]; exact hW) (by rw [HL0.out]; exact n0)
    rw [HFX.out, HMX.out, HZX.out, HOK.out, HL0.out] at this
    exact this
  clear hA0 HFX HMX HZX HOK
  go_enter Try.func3, Try.ntmps3
  go_wp2_with fail
  refine Calls.mono (KTo.out _ (KRd.out _ (Below.refl _ _))) ?_
  rintro e v1 ⟨rfl, o1, b1⟩
  have P1 := row_toIntS HL0.out o1
  have KC1 : Hid _ := KSp.out _ v1 P1.ints
  have KB1 : Hid (Below w.heap.size w v1) := b1
  clear b1 o1 P1
  go_wp2_with fail
  refine Calls.mono KC1.out ?_
  rintro e v2 ⟨a1, c1, a2, c2, rfl, r2, i2, b2⟩
  obtain ⟨E, HE⟩ : ∃ x, Hid (x = v2.heap.size) := ⟨_, rfl⟩
  obtain ⟨w4, HW4⟩ : ∃ x, Hid (x = v2.alloc (.cells #[.int .i64 fx, .slice a1 mx c1, .slice a2 zx.length c2, .slice none 0 0, .slice none 0 0, .slice none 0 0] 30)) := ⟨_, rfl⟩
  have b24 : Below v2.heap.size v2 w4 := by rw [HW4.out]; exact (Below.refl _ _).alloc (Nat.le_refl _) _
  have RE4 : Row w4 E 30 #[.int .i64 fx, .slice a1 mx c1, .slice a2 zx.length c2, .slice none 0 0, .slice none 0 0, .slice none 0 0] := by rw [HW4.out, HE.out]; exact Row.new v2 _ _
  have KE : Hid (∀ W, Below w4.heap.size w4 W → Row W E 30 #[.int .i64 fx, .slice a1 mx c1, .slice a2 zx.length c2, .slice none 0 0, .slice none 0 0, .slice none 0 0] ∧ Rd W (ndsD mx (nd0 f)) (.slice a1 mx c1) ∧ IntsAt W a2 zx.length zx ∧ IntsAt W a0 len0 zs) := fun W hW => ⟨RE4.below hW RE4.lt, (r2.below b24).below hW, (i2.below b24).below hW, KRd.out _ (below2 (below2 KB1.out (below2 b2 b24)) hW)⟩
  have KB4 : Hid (Below w.heap.size w w4) := below2 KB1.out (below2 b2 b24)
  have hI4 := (KE.out w4 (Below.refl _ _)).2.2.2
  have KT4 : Hid _ := KTo.out _ hI4
  clear b2 b24 RE4 r2 i2 KC1 hI4 KB1 KRd
  go_wp2_with fail
  rw [← HW4.out, ← HE.out]
  refine Calls.mono KT4.out ?_
  rintro e v5 ⟨rfl, o5, b5⟩
  have X5 := row_toIntS HL0.out o5
  have KC5 : Hid _ := KIm.out _ v5 X5.ints
  have t5 := (World.ownsRow.lt o5 _ rfl).2
  obtain ⟨gX, HGX⟩ : ∃ x, Hid (x = w4.heap.size) := ⟨_, rfl⟩
  rw [← HGX.out] at X5 KC5 t5
  rw [← HGX.out]
  have KX5 : Hid (RowI v5 gX (gX + 1) (some ⟨gX, 0, none⟩) len0 len0 zs) := X5
  have KB5 : Hid (Below w4.heap.size w4 v5) := b5
  have HT5 : Hid (gX + 1 ≤ v5.heap.size ∧ w4.heap.size = gX) := ⟨Nat.succ_le_of_lt t5, HGX.out.symm⟩
  clear b5 o5 X5 KT4 t5 HGX
  go_wp2_with fail
  refine Calls.mono KC5.out ?_
  rintro e v6 ⟨b1, d1, b2, d2, b3, d3, b4, b5, F1, F2, F3, rfl, O6, b6⟩
  obtain ⟨G, HG⟩ : ∃ x, Hid (x = v6.heap.size) := ⟨_, rfl⟩
  obtain ⟨w7, HW7⟩ : ∃ x, Hid (x = v6.alloc (.cells #[.int .i64 fx, .slice b1 mx d1, .slice b2 zx.length d2, .slice b3 0 d3, .slice b4 0 0, .slice b5 0 0] 30)) := ⟨_, rfl⟩
  have b67 : Below v6.heap.size v6 w7 := by rw [HW7.out]; exact (Below.refl _ _).alloc (Nat.le_refl _) _
  obtain ⟨bg, HBG⟩ : ∃ x, Hid (v5.heap.size = x) := ⟨_, rfl⟩
  have HLs : Hid (w4.heap.size ≤ gX ∧ gX + 1 ≤ bg ∧ bg ≤ G) := ⟨by have := HT5.out.2; omega, by rw [← HBG.out]; exact HT5.out.1, by rw [← HBG.out, HG.out]; exact b6.size⟩
  have F7 : Hid (AsF w4 bg G fx mx (nd0 f) zx (fun _ => syO) b1 b2 b3 b4 b5 d1 zx.length d2 d3 w7) := by
    obtain ⟨G1, G2, G3, o, hd⟩ := O6.cut
    rw [HBG.out] at o hd
    exact ⟨below2 KB5.out (below2 b6 b67), by rw [HW7.out, HG.out]; exact Row.new v6 _ _, G1, G2, G3, o.below b67, fun g hg => ⟨(hd g hg).1, by rw [HG.out]; exact (hd g hg).2⟩⟩
  have KX7 : Hid (RowI w7 gX (gX + 1) (some ⟨gX, 0, none⟩) len0 len0 zs) := (KX5.out.below b6).below b67
  have KEq : Hid (∀ W, AsF w4 bg G fx mx (nd0 f) zx (fun _ => syO) b1 b2 b3 b4 b5 d1 zx.length d2 d3 W → Calls Try.prog 7 #[arV fx (.slice b1 mx d1) (.slice b2 zx.length d2) (.slice b3 0 d3) (.slice b4 0 0) (.slice b5 0 0), arV fx (.slice a1 mx c1) (.slice a2 zx.length c2) (.slice none 0 0) (.slice none 0 0) (.slice none 0 0)] W fun e w' => e = .returned (.bool true) ∧ Below W.heap.size W w') := fun W hF => by
    obtain ⟨J1, J2, J3, o, _⟩ := hF.og
    obtain ⟨_, k2, k3, _⟩ := KE.out _ hF.bw
    exact eqArc_of fx _ _ _ _ _ _ _ _ _ _ W (fun V hV => eqNt_same fx b1 a1 mx d1 c1 b2 a2 zx d2 c2 b3 none 0 d3 0 (nd0 f) (fun _ => syO) V (o.n.rd.below hV) (k2.below hV) ((rd_ints.1 o.z.rd).below hV) (k3.below hV) (o.y.rd.below hV) (Rd.nil _ _ _ _ _ _) HK.out.kn HK.out.kN HK.out.kz HK.out.km HK.out.kY) (fun V _ => eqEns_same b4 none 0 0 0 (fun _ => enZ) V (Rd.nil _ _ _ _ _ _) (Rd.nil _ _ _ _ _ _) (by omega)) (fun V _ => eqMas_same b5 none 0 0 0 (fun _ => maZ) V (Rd.nil _ _ _ _ _ _) (Rd.nil _ _ _ _ _ _) (by omega))
  clear b6 b67 O6 KC5 KB5 KX5 HBG HT5
  have RE7 : Hid _ := (KE.out _ F7.out.bw).1
  go_wp2_with (first | ((try rw [← HW7.out, ← HG.out]); refine wpList_load_row (by rfl) 30 _ (by rfl) G (by rfl) 30 #[.int .i64 fx, .slice b1 mx d1, .slice b2 zx.length d2, .slice b3 0 d3, .slice b4 0 0, .slice b5 0 0] (0, 0) _ ?_ Try.underlying30 (by rfl) Try.infoAr ?_; exact F7.out.rg) | (refine wpList_load_row (by rfl) 30 _ (by rfl) E (by rfl) 30 #[.int .i64 fx, .slice a1 mx c1, .slice a2 zx.length c2, .slice none 0 0, .slice none 0 0, .slice none 0 0] (0, 0) _ ?_ Try.underlying30 (by rfl) Try.infoAr ?_; exact RE7.out))
  refine Calls.mono (KEq.out _ F7.out) ?_
  rintro e w9 ⟨rfl, b9⟩
  have F9 : Hid (AsF w4 bg G fx mx (nd0 f) zx (fun _ => syO) b1 b2 b3 b4 b5 d1 zx.length d2 d3 w9) := F7.out.below b9
  have KX9 : Hid (RowI w9 gX (gX + 1) (some ⟨gX, 0, none⟩) len0 len0 zs) := KX7.out.below b9
  clear b9 F7 KX7 RE7 HW7 HG
  have KT9 : Hid _ := KTo.out _ (KE.out _ F9.out.bw).2.2.2
  go_wp2_with fail
  refine Calls.mono KT9.out ?_
  rintro e w10 ⟨rfl, o10, b10⟩
  have P10 := row_toIntS HL0.out o10
  have F10 : Hid (AsF w4 bg G fx mx (nd0 f) zx (fun _ => syO) b1 b2 b3 b4 b5 d1 zx.length d2 d3 w10) := F9.out.below b10
  have KX10 : Hid (RowI w10 gX (gX + 1) (some ⟨gX, 0, none⟩) len0 len0 zs) := KX9.out.below b10
  have KC10 : Hid _ := eqIntS_same _ _ _ len0 len0 zs _ KX10.out.ints P10.ints n0
  clear b10 o10 P10 F9 KX9 KT9
  go_wp2_with fail
  refine Calls.mono KC10.out ?_
  rintro e w11 ⟨rfl, b11⟩
  have F11 : Hid (AsF w4 bg G fx mx (nd0 f) zx (fun _ => syO) b1 b2 b3 b4 b5 d1 zx.length d2 d3 w11) := F10.out.below b11
  have X11 := KX10.out.below b11
  obtain ⟨kx0, hkx0⟩ : ∃ q, 1 + len0 = q := ⟨_, rfl⟩
  have KC11 : Hid _ := mark_q _ _ _ _ _ 1 kx0 _ _ X11 (by omega) (by omega) (by omega)
  have nk0 : ¬ ((kx0 : Int) < 0) := by omega
  clear b11 F10 KX10 KC10 X11 hkx0
  go_wp2_with fail
  refine Calls.mono KC11.out ?_
  rintro e w12 ⟨rfl, _, T12⟩
  have F12 : Hid (AsF w4 bg G fx mx (nd0 f) zx (fun _ => syO) b1 b2 b3 b4 b5 d1 zx.length d2 d3 w12) := F11.out.turnX T12 HLs.out.1 HLs.out.2.1 HLs.out.2.2
  have RE12 := (KE.out _ F12.out.bw).1
  have r0 := F12.out.rg.cell 0
  have r1 := F12.out.rg.cell 1
  have r2 := F12.out.rg.cell 2
  have r3 := F12.out.rg.cell 3
  have r4 := F12.out.rg.cell 4
  have r5 := F12.out.rg.cell 5
  have m0 := RE12.cell 0
  have m1 := RE12.cell 1
  have m2 := RE12.cell 2
  have m3 := RE12.cell 3
  have m4 := RE12.cell 4
  have m5 := RE12.cell 5
  simp at r0 r1 r2 r3 r4 r5 m0 m1 m2 m3 m4 m5
  clear T12 F11 KC11 RE12
  go_wp2_with fail
  refine Calls.mono (KEq.out _ F12.out) ?_
  rintro e w13 ⟨rfl, b13⟩
  have F13 : Hid (AsF w4 bg G fx mx (nd0 f) zx (fun _ => syO) b1 b2 b3 b4 b5 d1 zx.length d2 d3 w13) := F12.out.below b13
  clear b13 F12 r0 r1 r2 r3 r4 r5 m0 m1 m2 m3 m4 m5
  obtain ⟨mq, HMQ⟩ : ∃ x, Hid (mq3 mx (nd0 f) zx 0 (fun _ => syO) = x) := ⟨_, rfl⟩
  have KM13 : Hid (Calls Try.prog 10 #[arV fx (.slice b1 mx d1) (.slice b2 zx.length d2) (.slice b3 0 d3) (.slice b4 0 0) (.slice b5 0 0), .int .i64 1] w13 fun e w' => e = .returned (.int .i64 (mq : Int)) ∧ AsF w4 bg G fx mx (mkNL 1 (nd0 f)) (marks (mq1 mx (nd0 f)) zx.length) (mkdY (mq2 mx (nd0 f) zx) (fun _ => syO)) b1 b2 b3 b4 b5 d1 zx.length d2 d3 w') := by
    obtain ⟨J1, J2, J3, o, hd⟩ := F13.out.og
    have := markArc_0 fx bg mx (nd0 f) zx 0 (fun _ => syO) b1 b2 b3 b4 b5 d1 d2 d3 0 0 J1 J2 J3 w13 o HK.out.w
    rw [HMQ.out] at this
    refine Calls.mono this ?_
    rintro e w' ⟨he, o', t'⟩
    exact ⟨he, F13.out.turnG t' hd o' (by have := HLs.out; omega)⟩
  have KHe : Hid (∀ W, AsF w4 bg G fx mx (mkNL 1 (nd0 f)) (marks (mq1 mx (nd0 f)) zx.length) (mkdY (mq2 mx (nd0 f) zx) (fun _ => syO)) b1 b2 b3 b4 b5 d1 zx.length d2 d3 W → Calls Try.prog 11 #[arV fx (.slice b1 mx d1) (.slice b2 zx.length d2) (.slice b3 0 d3) (.slice b4 0 0) (.slice b5 0 0), .int .i64 1] W fun e w' => e = .returned (.int .i64 (mq : Int)) ∧ Below W.heap.size W w') := fun W hF => by
    obtain ⟨J1, J2, J3, o, _⟩ := hF.og
    have h2 := o.z.rd
    have e2 : (marks (mq1 mx (nd0 f)) zx.length).length = zx.length := by simp [marks_length]
    have h2' : IntsAt W b2 zx.length (marks (mq1 mx (nd0 f)) zx.length) := by
      have := rd_ints (zs := marks (mq1 mx (nd0 f)) zx.length) (a := b2) (cap := d2) (w := W)
      rw [e2] at this
      exact this.1 h2
    exact heldArc_0 fx _ _ _ mq b4 b5 0 0 W (fun V hV => by
      have := heldNt_any fx mx (nd0 f) zx 0 (fun _ => syO) b1 b2 b3 d1 d2 d3 V (o.n.rd.below hV) (h2'.below hV) (o.y.rd.below hV) HK.out
      rw [HMQ.out] at this
      exact this)
  have nq : ¬ ((mq : Int) < 0) := by omega
  have nqq : ((mq : Int) != (mq : Int)) = false := by simp
  go_wp2_with (refine wpList_load_row (by rfl) 30 _ (by rfl) G (by rfl) 30 #[.int .i64 fx, .slice b1 mx d1, .slice b2 zx.length d2, .slice b3 0 d3, .slice b4 0 0, .slice b5 0 0] (0, 0) _ ?_ Try.underlying30 (by rfl) Try.infoAr ?_; exact F13.out.rg)
  refine Calls.mono KM13.out ?_
  rintro e w14 ⟨rfl, F14'⟩
  have F14 : Hid (AsF w4 bg G fx mx (mkNL 1 (nd0 f)) (marks (mq1 mx (nd0 f)) zx.length) (mkdY (mq2 mx (nd0 f) zx) (fun _ => syO)) b1 b2 b3 b4 b5 d1 zx.length d2 d3 w14) := F14'
  clear F14' F13 KM13
  go_wp2_with (refine wpList_load_row (by rfl) 30 _ (by rfl) G (by rfl) 30 #[.int .i64 fx, .slice b1 mx d1, .slice b2 zx.length d2, .slice b3 0 d3, .slice b4 0 0, .slice b5 0 0] (0, 0) _ ?_ Try.underlying30 (by rfl) Try.infoAr ?_; exact F14.out.rg)
  refine Calls.mono (KHe.out _ F14.out) ?_
  rintro e w15 ⟨rfl, b15⟩
  have F15 : Hid (AsF w4 bg G fx mx (mkNL 1 (nd0 f)) (marks (mq1 mx (nd0 f)) zx.length) (mkdY (mq2 mx (nd0 f) zx) (fun _ => syO)) b1 b2 b3 b4 b5 d1 zx.length d2 d3 w15) := F14.out.below b15
  clear b15 F14
  have KT15 : Hid _ := KTo.out _ (KE.out _ F15.out.bw).2.2.2
  go_wp2_with fail
  refine Calls.mono KT15.out ?_
  rintro e w16 ⟨rfl, o16, b16⟩
  have P16 := row_toIntS HL0.out o16
  have F16 : Hid (AsF w4 bg G fx mx (mkNL 1 (nd0 f)) (marks (mq1 mx (nd0 f)) zx.length) (mkdY (mq2 mx (nd0 f) zx) (fun _ => syO)) b1 b2 b3 b4 b5 d1 zx.length d2 d3 w16) := F15.out.below b16
  have KC16 : Hid _ := KIm.out _ w16 P16.ints
  clear b16 o16 P16 F15 KT15
  go_wp2_with fail
  refine Calls.mono KC16.out ?_
  rintro e w17 ⟨e1, h1, e2, h2, e3, h3, e4, e5, I1, I2, I3, rfl, O17, b17⟩
  obtain ⟨H, HH⟩ : ∃ x, Hid (x = w17.heap.size) := ⟨_, rfl⟩
  obtain ⟨w18, HW18⟩ : ∃ x, Hid (x = w17.alloc (.cells #[.int .i64 fx, .slice e1 mx h1, .slice e2 zx.length h2, .slice e3 0 h3, .slice e4 0 0, .slice e5 0 0] 30)) := ⟨_, rfl⟩
  have b1718 : Below w17.heap.size w17 w18 := by rw [HW18.out]; exact (Below.refl _ _).alloc (Nat.le_refl _) _
  have RH : Hid (Row w18 H 30 #[.int .i64 fx, .slice e1 mx h1, .slice e2 zx.length h2, .slice e3 0 h3, .slice e4 0 0, .slice e5 0 0]) := by show Row _ _ _ _; rw [HW18.out, HH.out]; exact Row.new w17 _ _
  have F18 : Hid (AsF w4 bg G fx mx (mkNL 1 (nd0 f)) (marks (mq1 mx (nd0 f)) zx.length) (mkdY (mq2 mx (nd0 f) zx) (fun _ => syO)) b1 b2 b3 b4 b5 d1 zx.length d2 d3 w18) := (F16.out.below b17).below b1718
  have KEq2 : Hid (Calls Try.prog 7 #[arV fx (.slice e1 mx h1) (.slice e2 zx.length h2) (.slice e3 0 h3) (.slice e4 0 0) (.slice e5 0 0), arV fx (.slice a1 mx c1) (.slice a2 zx.length c2) (.slice none 0 0) (.slice none 0 0) (.slice none 0 0)] w18 fun e w' => e = .returned (.bool true) ∧ Below w18.heap.size w18 w') := by
    obtain ⟨_, k2, k3, _⟩ := KE.out _ F18.out.bw
    have g1 := O17.below b1718
    exact eqArc_of fx _ _ _ _ _ _ _ _ _ _ w18 (fun V hV => eqNt_same fx e1 a1 mx h1 c1 e2 a2 zx h2 c2 e3 none 0 h3 0 (nd0 f) (fun _ => syO) V (g1.n.rd.below hV) (k2.below hV) ((rd_ints.1 g1.z.rd).below hV) (k3.below hV) (g1.y.rd.below hV) (Rd.nil _ _ _ _ _ _) HK.out.kn HK.out.kN HK.out.kz HK.out.km HK.out.kY) (fun V _ => eqEns_same e4 none 0 0 0 (fun _ => enZ) V (Rd.nil _ _ _ _ _ _) (Rd.nil _ _ _ _ _ _) (by omega)) (fun V _ => eqMas_same e5 none 0 0 0 (fun _ => maZ) V (Rd.nil _ _ _ _ _ _) (Rd.nil _ _ _ _ _ _) (by omega))
  have RE18 : Hid _ := (KE.out _ F18.out.bw).1
  clear b17 b1718 O17 F16 KC16
  go_wp2_with (first | ((try rw [← HW18.out, ← HH.out]); refine wpList_load_row (by rfl) 30 _ (by rfl) H (by rfl) 30 #[.int .i64 fx, .slice e1 mx h1, .slice e2 zx.length h2, .slice e3 0 h3, .slice e4 0 0, .slice e5 0 0] (0, 0) _ ?_ Try.underlying30 (by rfl) Try.infoAr ?_; exact RH.out) | (refine wpList_load_row (by rfl) 30 _ (by rfl) E (by rfl) 30 #[.int .i64 fx, .slice a1 mx c1, .slice a2 zx.length c2, .slice none 0 0, .slice none 0 0, .slice none 0 0] (0, 0) _ ?_ Try.underlying30 (by rfl) Try.infoAr ?_; exact RE18.out))
  refine Calls.mono KEq2.out ?_
  rintro e w19 ⟨rfl, b19⟩
  have F19 : Hid (AsF w4 bg G fx mx (mkNL 1 (nd0 f)) (marks (mq1 mx (nd0 f)) zx.length) (mkdY (mq2 mx (nd0 f) zx) (fun _ => syO)) b1 b2 b3 b4 b5 d1 zx.length d2 d3 w19) := F18.out.below b19
  clear b19 F18 KEq2 RH RE18
  go_wp2_with (refine wpList_load_row (by rfl) 30 _ (by rfl) G (by rfl) 30 #[.int .i64 fx, .slice b1 mx d1, .slice b2 zx.length d2, .slice b3 0 d3, .slice b4 0 0, .slice b5 0 0] (0, 0) _ ?_ Try.underlying30 (by rfl) Try.infoAr ?_; exact F19.out.rg)
  refine Calls.mono (KHe.out _ F19.out) ?_
  rintro e w20 ⟨rfl, b20⟩
  have KF : Hid (Below w.heap.size w w20) := below2 KB4.out (below2 F19.out.bw b20)
  clear b20 F19
  go_wp2
  go_ret
  exact ⟨rfl, KF.out⟩
end Go.Proofs.Ytpomffkpjldloaa
namespace Go.Proofs.Ytpomffkpjldloaa.fnExactArchiveStart
open Go.ChangeShapes Go.WideShapes Go.ChangeAt Go.RowKit
open Go.ChangeMaps (open_string shut_string)
set_option linter.unusedVariables false
theorem own : ownKnob Try.prog.godebug = none := by kernel_rfl
theorem laidOut : laidOutB Try.prog = true := by kernel_rfl
set_option maxRecDepth 100000 in
theorem lifted (os : Os) (started : os.Started) (H : Type) (enc : TypeId × Value → H) :
    ReturnsInHanded {} Try.checked os 3 .any (Rows.fnExactArchiveStartSpec.pre6 enc Try.prog Try.f3 Rows.fnExactArchiveStartRow.domain false) (Rows.fnExactArchiveStartSpec.post enc Try.prog Try.f3 false true false false) := by
  refine returnsInHanded_of_change (C := Try.checked) own started (by kernel_rfl) Try.func3
    (ChangeSpec.witness6 (enc := enc) (C := Try.checked) false ⟨#[], #[.int .i64 0, .slice none 0 0], []⟩ 8 (by kernel_rfl) (by kernel_rfl) (by kernel_rfl) (by kernel_rfl)) ?_
  intro W base args ds gs before hval0 hW hcnd _
  have hval : ∀ (j : Nat) t v, Try.f3.params[j]? = some t → args[j]? = some v → Value.okWide Try.prog W .any base t v := hval0
  have hW' := hW
  obtain ⟨p, q, hA0, hV, rfl, hfz, hnd⟩ := hW
  have hA : DataW.TrodAll enc Try.prog W 0 (fun _ => true) true Try.f3.params.toList args.toList ds p := hA0
  rw [Try.params3] at hA hval
  obtain ⟨v0, vs0, d0, ds0, p0, q0, hargs, rfl, rfl, h0, r0⟩ := trodAll_cons hA
  obtain ⟨v1, vs1, d1, ds1, p1, q1, rfl, rfl, rfl, h1, r1⟩ := trodAll_cons r0
  obtain ⟨rfl, rfl, rfl⟩ := trodAll_nil r1
  obtain rfl : args = #[v0, v1] := by cases args; simp_all
  obtain ⟨rfl, rfl⟩ := trodVars_none hV
  obtain ⟨a0, rfl, rfl, rfl, w0⟩ := open_int Try.underlying3 (hval 0 3 v0 rfl rfl) h0
  obtain ⟨a1, len1, cap1, rfl⟩ := okWide_slice Try.underlying22 (hval 1 22 v1 rfl rfl)
  have k1 := h1
  have lt1 : ∀ x ∈ p1, x.block < W.heap.size := by obtain ⟨m, hm⟩ := k1; exact DataW.trod_lt m _ _ _ hm
  obtain ⟨z1, w1⟩ : ∃ zs, IsRow .i64 W a1 len1 cap1 zs := by
    obtain ⟨fuel, hf⟩ := h1
    rcases open_ints Try.underlying22 Try.underlying3 (by kernel_rfl) hf with ⟨hcs, _⟩ | ⟨x, l, c, zs, hcs, _, hl, hm, hz, _, hcell, hwz⟩
    · simp [Value.cells] at hcs
      obtain ⟨rfl, rfl, rfl⟩ := hcs
      exact ⟨[], .inl ⟨rfl, rfl, rfl, rfl⟩⟩
    · simp [Value.cells] at hcs
      obtain ⟨rfl, rfl, rfl⟩ := hcs
      exact ⟨zs, .inr ⟨_, rfl, hl, hm, by simpa using hz, hcell, hwz⟩⟩
  clear hA0 hval0
  refine (walk_FnExactArchiveStart a0 a1 len1 cap1 z1 W w0 w1).mono fun e W' ⟨he, bel⟩ => ?_
  subst he
  exact ⟨_, rfl, _, _, _, [], _, [], hW', trodAll_mk1 (shut_bool Try.underlying4 _), (trodAll_cons_mk (shut_int Try.underlying3 w0) (trodAll_cons_mk (Below.trod laidOut (by kernel_rfl) (of_decide_eq_true (by kernel_rfl)) k1 bel lt1) trodAll_mk0)), rfl, bel.frame _, fun h => by cases h⟩
theorem over : Rows.fnExactArchiveStartRow.holds Try.pinned (OpenSpec.ofChange Rows.fnExactArchiveStartSpec) :=
  OpenClaim.holds_of_wide 3 Try.f3 rfl rfl rfl rfl rfl rfl rfl ⟨rfl, rfl, rfl, rfl, rfl⟩ rfl rfl rfl rfl rfl (by kernel_rfl) Try.func3 (by kernel_rfl)
    (of_decide_eq_true (by kernel_rfl)) (by unfold Func.isWrapper; first | (rw [if_pos (by decide +kernel)]; kernel_rfl) | (rw [if_neg (by decide +kernel)]; exact ⟨rfl, rfl⟩))
    (fun os started H enc _ => lifted os started H enc)
theorem proved : Rows.FnExactArchiveStartSaid := over
#print axioms proved
end Go.Proofs.Ytpomffkpjldloaa.fnExactArchiveStart
