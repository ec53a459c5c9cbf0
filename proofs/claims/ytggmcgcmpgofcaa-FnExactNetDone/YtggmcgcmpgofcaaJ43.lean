/- Which nodes that are no liars are done with a root (NetDone), in the program. Conditions: lists of at most 2^20. -/
import Derived.Test.YtggmcgcmpgofcaaJ42
import Derived.Test.YtggmcgcmpgofcaaJ36
import Derived.Test.YtggmcgcmpgofcaaJ38
import Derived.Test.YtggmcgcmpgofcaaJ9
namespace Go.Proofs.Ytggmcgcmpgofcaa
set_option maxRecDepth 2000
open Go.ChangeShapes Go.WideShapes Go.ChangeAt Go.RowKit

/-- Whether a node is done with a root. -/
def dnB (N : Nat → Nd) (root : ByteArray) (i : Nat) : Bool := soB (N i).S root (N i).n && (soS (N i).S root (N i).n).o
def dnL (N : Nat → Nd) (root : ByteArray) (l : List Nat) : List Int := (l.filter (dnB N root)).map (fun i : Nat => (i : Int))
theorem dnL_snoc (N : Nat → Nd) (root : ByteArray) (l : List Nat) (x : Nat) : dnL N root (l ++ [x]) = if dnB N root x = true then dnL N root l ++ [(x : Int)] else dnL N root l := by
  unfold dnL
  rw [List.filter_append]
  by_cases h : dnB N root x = true <;> simp [h]
theorem dnL_le (N : Nat → Nd) (root : ByteArray) (l : List Nat) : (dnL N root l).length ≤ l.length := by
  unfold dnL
  rw [List.length_map]
  exact List.length_filter_le _ _
theorem take_one {l : List Nat} {t : Nat} (h : t < l.length) : l.take (t + 1) = l.take t ++ [l.getD t 0] := by
  rw [List.take_add_one, List.getD_eq_getElem?_getD, List.getElem?_eq_getElem h]
  rfl
/-- What the count tells of each node. -/
structure NdQ (d : Nd) : Prop where
  n : d.n ≤ 1048576
  k : ∀ i, i < d.n → SlK (d.S i)
  s : ∀ i, i < d.n → SlS (d.S i)
/-- What stands when t seats are looked at. -/
structure DnI (w : World) (B g n : Nat) (z : Nat → Nat → Value) (L : List Int) (gg len cc : Nat) (wr : World) : Prop where
  ro : wr.ownsRow B 3 1 (.slice (some ⟨gg, 0, none⟩) len cc) len (L.map (Value.int .i64))
  rs : wr.ownsRow B 89 5 (.slice (some ⟨g, 0, none⟩) n n) n (cL 5 z n)
  ln : L.length = len
  bw : Below w.heap.size w wr
  wB : w.heap.size ≤ B
theorem row_type {w : World} {B e s n cap g : Nat} {xs : List Value} (h : w.ownsRow B e s (.slice (some ⟨g, 0, none⟩) n cap) n xs) : ∃ cur fr, w.heap[g]? = some (.cells cur e fr) := by
  rcases h.2 with ⟨e', _⟩ | ⟨g', cap', cur, e', h1, h2, _⟩
  · cases e'
  · cases e'
    exact ⟨_, _, h2⟩
theorem DnI.ne {w wr : World} {B g n : Nat} {z : Nat → Nat → Value} {L : List Int} {gg len cc : Nat} (h : DnI w B g n z L gg len cc wr) : g ≠ gg := fun e => by
  obtain ⟨c1, f1, e1⟩ := row_type h.ro
  obtain ⟨c2, f2, e2⟩ := row_type h.rs
  rw [e, e1] at e2
  simp at e2
theorem DnI.below {w wr w' : World} {B g n : Nat} {z : Nat → Nat → Value} {L : List Int} {gg len cc : Nat} (h : DnI w B g n z L gg len cc wr) (hb : Below wr.heap.size wr w') : DnI w B g n z L gg len cc w' := ⟨ownsRow_below h.ro hb, ownsRow_below h.rs hb, h.ln, below2 h.bw hb, h.wB⟩
theorem DnI.grow {w wr w' : World} {B g n : Nat} {z : Nat → Nat → Value} {L : List Int} {gg len cc g3 c3 : Nat} {x : Int} (h : DnI w B g n z L gg len cc wr) (ho : w'.ownsRow B 3 1 (.slice (some ⟨g3, 0, none⟩) (len + 1) c3) (len + 1) (L.map (Value.int .i64) ++ [.int .i64 x])) (hg : wr.grownBy w' (some gg)) : DnI w B g n z (L ++ [x]) g3 (len + 1) c3 w' :=
  ⟨by rw [List.map_append]; exact ho, own_kept h.rs hg (fun y hy => by cases hy; exact h.ne), by rw [List.length_append, h.ln]; rfl, h.bw.grown hg h.bw.size (fun k e => by cases e; exact Nat.le_trans h.wB (World.ownsRow.lt h.ro gg rfl).1), h.wB⟩
set_option maxHeartbeats 4000000 in
theorem netDone_any (f : Int) (a : Option Addr) (n c : Nat) (l : Option Addr) (d : Nat) (zs : List Int) (v3 : Value) (N : Nat → Nd) (root : ByteArray) (w : World) (h : Rd w (ndsD n N) (.slice a n c)) (hl : IntsAt w l zs.length zs) (hn : n ≤ 1048576) (hz : zs.length ≤ 1048576) (hQ : ∀ i, i < n → NdQ (N i)) :
    Calls Try.prog 25 #[ntV f (.slice a n c) (.slice l zs.length d) v3, .string root] w fun e w' => ∃ v, e = .returned v ∧ OwnI w' w.heap.size v (dnL N root (kl (lyP zs) n)) ∧ Below w.heap.size w w' := by
  obtain ⟨i0, hi, hz0, hz1, hz2⟩ : ∃ i0, Try.prog.info? 3 = some i0 ∧ i0.zero = some (.int .i64 0) ∧ i0.size = 1 ∧ i0.bytes = 8 := ⟨_, rfl, rfl, rfl, rfl⟩
  obtain ⟨A, HA⟩ : ∃ x, Hid (x = w.heap.size) := ⟨_, rfl⟩
  obtain ⟨g0, HG0⟩ : ∃ x, Hid (x = w.heap.size + 1) := ⟨_, rfl⟩
  obtain ⟨w0, HW0⟩ : ∃ x, Hid (x = (w.alloc (.cells #[.int .i64 f, .slice a n c, .slice l zs.length d, v3] 36)).alloc (.cells #[] 3)) := ⟨_, rfl⟩
  have RA : Hid (Row w0 A 36 #[.int .i64 f, .slice a n c, .slice l zs.length d, v3]) := by show Row _ _ _ _; rw [HW0.out, HA.out]; exact Row.alloc (Row.new w _ _) _
  have b0 : Below w.heap.size w w0 := by rw [HW0.out]; exact ((Below.refl _ _).alloc (Nat.le_refl _) _).alloc (by simp) _
  have HO0 : Hid (w0.ownsRow w.heap.size 3 1 (.slice (some ⟨g0, 0, none⟩) 0 0) 0 []) := by
    have := World.ownsRow_lit (e := 3) (size := 1) (base := w.heap.size) (w.alloc (.cells #[.int .i64 f, .slice a n c, .slice l zs.length d, v3] 36)) #[] 0 (by simp) (by unfold maxLen; omega) (by simp)
    show World.ownsRow _ _ _ _ _ _ _
    rw [HW0.out, HG0.out]
    simpa using this
  have KH : Hid _ := honest_any f a n c l d zs v3 N w w0 b0 h (hl.below b0) hn hz
  obtain ⟨m, HM⟩ : ∃ x, Hid ((kl (lyP zs) n).length = x) := ⟨_, rfl⟩
  have hmn : m ≤ n := by rw [← HM.out]; exact kl_le _ _
  rw [HM.out] at KH
  have KB0 : Hid (Below w.heap.size w w0) := b0
  have hin : ∀ t, t < m → (kl (lyP zs) n).getD t 0 < n := fun t ht => by
    rw [← HM.out] at ht
    rw [List.getD_eq_getElem?_getD, List.getElem?_eq_getElem ht]
    exact List.mem_range.1 (List.mem_filter.1 (List.getElem_mem ht)).1
  have KQ : Hid (∀ t, t < m → (kl (lyP zs) n).getD t 0 < n ∧ NdQ (N ((kl (lyP zs) n).getD t 0))) := fun t ht => ⟨hin t ht, hQ _ (hin t ht)⟩
  clear h hl b0 hQ hin
  go_enter Try.func25, Try.ntmps25
  go_wp2_with (rw [← HW0.out, ← HG0.out, ← HA.out]; refine wpList_load_row (by rfl) 36 _ (by rfl) A (by rfl) 36 #[.int .i64 f, .slice a n c, .slice l zs.length d, v3] (0, 0) _ ?_ Try.underlying36 (by rfl) Try.infoNt ?_; exact RA.out)
  refine Calls.mono KH.out ?_
  rintro e w1 ⟨g, z, rfl, ho, hr, b1⟩
  have H1 : Hid (DnI w w.heap.size g n z [] g0 0 0 w1) := ⟨ownsRow_below HO0.out b1, own_base ho KB0.out.size, rfl, below2 KB0.out b1, Nat.le_refl _⟩
  have KR : Hid (∀ t, t < m → ∀ q, q < 5 → Rd w (stD (N ((kl (lyP zs) n).getD t 0)) ((kl (lyP zs) n).getD t 0) f q) (z t q)) := hr
  clear ho hr b1 KH
  go_wp2
  go_loopw [5, 14] (fun v vi wr => ∃ (t gg len cc : Nat) (L : List Int), t ≤ m ∧ len ≤ t ∧ Hid (L = dnL N root ((kl (lyP zs) n).take t)) ∧ Hid (DnI w w.heap.size g n z L gg len cc wr) ∧ v = .slice (some ⟨gg, 0, none⟩) len cc ∧ vi = .int .i64 (t : Int)) (fun _ vi _ => m - (intOf vi).toNat)
  case atStart => exact ⟨0, g0, 0, 0, [], Nat.zero_le _, Nat.le_refl _, (show [] = dnL N root ((kl (lyP zs) n).take 0) by simp [dnL]), H1, rfl, rfl⟩
  case round =>
    obtain ⟨t, gg, len, cc, L, ht, hlt', HLL, HD, rfl, rfl⟩ := hrel
    clear H1
    by_cases hlt : t < m
    · have hti : (t : Int) < (m : Int) := by omega
      obtain ⟨an, cn, e0, e1, e2, e3, e4, hrd⟩ := st_cells (KR.out t hlt)
      obtain ⟨hxn, hq⟩ := KQ.out t hlt
      have HTK : Hid ((kl (lyP zs) n).take (t + 1) = (kl (lyP zs) n).take t ++ [(kl (lyP zs) n).getD t 0]) := take_one (by rw [HM.out]; exact hlt)
      have R1' := row_range HD.out.rs (show t < n by omega)
      obtain ⟨x, HX⟩ : ∃ v, Hid ((kl (lyP zs) n).getD t 0 = v) := ⟨_, rfl⟩
      rw [HX.out] at e0 e1 e2 e3 hrd hq hxn HTK
      obtain ⟨nd, HND⟩ : ∃ v, Hid (N x = v) := ⟨_, rfl⟩
      obtain ⟨T, HT⟩ : ∃ v, Hid (soS nd.S root nd.n = v) := ⟨_, rfl⟩
      obtain ⟨okv, HOK⟩ : ∃ v, Hid (soB nd.S root nd.n = v) := ⟨_, rfl⟩
      rw [HND.out] at e0 e1 e2 hrd hq
      rw [e0, e1, e2, e3, e4] at R1'
      have R1 : Hid (wr.rangeAt g (t * 5) [.int .i64 nd.i, .int .i64 nd.f, .slice an nd.n cn, .int .i64 (x : Int), .int .i64 f]) := R1'
      obtain ⟨V, HV⟩ : ∃ v, Hid (v = wr.heap.size) := ⟨_, rfl⟩
      obtain ⟨w2, HW2⟩ : ∃ v, Hid (v = wr.alloc (.cells #[.int .i64 nd.i, .int .i64 nd.f, .slice an nd.n cn, .int .i64 (x : Int), .int .i64 f] 89)) := ⟨_, rfl⟩
      have b2 : Below wr.heap.size wr w2 := by rw [HW2.out]; exact (Below.refl _ _).alloc (Nat.le_refl _) _
      have RV : Hid (Row w2 V 89 #[.int .i64 nd.i, .int .i64 nd.f, .slice an nd.n cn, .int .i64 (x : Int), .int .i64 f]) := by show Row _ _ _ _; rw [HW2.out, HV.out]; exact Row.new wr _ _
      have HD2 : Hid (DnI w w.heap.size g n z L gg len cc w2) := HD.out.below b2
      have KC : Hid (Calls Try.prog 55 #[ndV nd.i nd.f (.slice an nd.n cn), .string root] w2 fun e w' => ∃ (a6 a11 a12 : Option Addr) (c6 c11 c12 : Nat) (F6 F11 F12 : Nat → Prop), e = .returned (.tuple #[slV T (.slice a6 T.p.m c6) (.slice a11 T.ze.length c11) (.slice a12 T.zr.length c12), .bool okv]) ∧ SlO w' w2.heap.size T (.slice a6 T.p.m c6) (.slice a11 T.ze.length c11) (.slice a12 T.zr.length c12) F6 F11 F12 ∧ Below w2.heap.size w2 w') := by
        have := slotOf_any nd.i nd.f an nd.n cn nd.S root w2 (hrd.below HD2.out.bw) hq.n hq.k
        rw [HT.out, HOK.out] at this
        exact this
      have HSN : Hid (dnL N root ((kl (lyP zs) n).take (t + 1)) = if (okv && T.o) = true then L ++ [(x : Int)] else L) := by
        show _ = _
        rw [HTK.out, dnL_snoc, ← HLL.out]
        unfold dnB
        rw [HND.out, HT.out, HOK.out]
      clear e0 e1 e2 e3 e4 hrd hxn hq R1' b2 HTK HX HND HT HOK HLL HD
      cases hok : okv with
      | false =>
        rw [hok] at KC HSN
        have HS2 : Hid (L = dnL N root ((kl (lyP zs) n).take (t + 1))) := by show _ = _; rw [HSN.out]; simp
        clear hok HSN
        go_wp2_with (refine wpList_load_mid (by rfl) 89 _ (by rfl) g (t * 5) (by rfl) [.int .i64 nd.i, .int .i64 nd.f, .slice an nd.n cn, .int .i64 (x : Int), .int .i64 f] _ ?_ Try.underlying89 (by rfl) Try.infoSt ?_; exact R1.out)
        rw [← HW2.out, ← HV.out]
        refine Calls.mono KC.out ?_
        rintro e w3 ⟨a6, a11, a12, c6, c11, c12, F6, F11, F12, rfl, _, b3⟩
        obtain ⟨G, HG⟩ : ∃ v, Hid (v = w3.heap.size) := ⟨_, rfl⟩
        obtain ⟨w4, HW4⟩ : ∃ v, Hid (v = w3.alloc (.cells (slC T (.slice a6 T.p.m c6) (.slice a11 T.ze.length c11) (.slice a12 T.zr.length c12)) 79)) := ⟨_, rfl⟩
        have b4 : Below w3.heap.size w3 w4 := by rw [HW4.out]; exact (Below.refl _ _).alloc (Nat.le_refl _) _
        have RG : Hid (Row w4 G 79 (slC T (.slice a6 T.p.m c6) (.slice a11 T.ze.length c11) (.slice a12 T.zr.length c12))) := by show Row _ _ _ _; rw [HW4.out, HG.out]; exact Row.new w3 _ _
        have HD4 : Hid (DnI w w.heap.size g n z L gg len cc w4) := HD2.out.below (below2 b3 b4)
        have RV4 : Hid (Row w4 V 89 #[.int .i64 nd.i, .int .i64 nd.f, .slice an nd.n cn, .int .i64 (x : Int), .int .i64 f]) := (RV.out.below b3 RV.out.lt).below b4 (Nat.lt_of_lt_of_le RV.out.lt b3.size)
        have y10 := RG.out.cell 10
        simp at y10
        have v3' := RV4.out.cell 3
        simp at v3'
        clear b3 b4 KC R1 RV HD2

        go_wp2
        rw [← HW4.out]
        go_roundw
        case rel => exact ⟨t + 1, gg, len, cc, L, by omega, by omega, HS2, HD4, rfl, by go_num⟩
        case measure => simp [intOf]; omega

      | true =>
        rw [hok] at KC HSN
        cases hto : T.o with
        | false =>
          rw [hto] at HSN
          have HTO : Hid (T.o = false) := hto
          have HS2 : Hid (L = dnL N root ((kl (lyP zs) n).take (t + 1))) := by show _ = _; rw [HSN.out]; simp
          clear hok HSN hto
          go_wp2_with (refine wpList_load_mid (by rfl) 89 _ (by rfl) g (t * 5) (by rfl) [.int .i64 nd.i, .int .i64 nd.f, .slice an nd.n cn, .int .i64 (x : Int), .int .i64 f] _ ?_ Try.underlying89 (by rfl) Try.infoSt ?_; exact R1.out)
          rw [← HW2.out, ← HV.out]
          refine Calls.mono KC.out ?_
          rintro e w3 ⟨a6, a11, a12, c6, c11, c12, F6, F11, F12, rfl, _, b3⟩
          obtain ⟨G, HG⟩ : ∃ v, Hid (v = w3.heap.size) := ⟨_, rfl⟩
          obtain ⟨w4, HW4⟩ : ∃ v, Hid (v = w3.alloc (.cells (slC T (.slice a6 T.p.m c6) (.slice a11 T.ze.length c11) (.slice a12 T.zr.length c12)) 79)) := ⟨_, rfl⟩
          have b4 : Below w3.heap.size w3 w4 := by rw [HW4.out]; exact (Below.refl _ _).alloc (Nat.le_refl _) _
          have RG : Hid (Row w4 G 79 (slC T (.slice a6 T.p.m c6) (.slice a11 T.ze.length c11) (.slice a12 T.zr.length c12))) := by show Row _ _ _ _; rw [HW4.out, HG.out]; exact Row.new w3 _ _
          have HD4 : Hid (DnI w w.heap.size g n z L gg len cc w4) := HD2.out.below (below2 b3 b4)
          have RV4 : Hid (Row w4 V 89 #[.int .i64 nd.i, .int .i64 nd.f, .slice an nd.n cn, .int .i64 (x : Int), .int .i64 f]) := (RV.out.below b3 RV.out.lt).below b4 (Nat.lt_of_lt_of_le RV.out.lt b3.size)
          have y10 := RG.out.cell 10
          simp at y10
          have v3' := RV4.out.cell 3
          simp at v3'
          clear b3 b4 KC R1 RV HD2

          rw [HTO.out] at y10
          go_upto_region 6 with fail
          rw [← HW4.out, ← HG.out]
          go_wp2
          go_roundw
          case rel => exact ⟨t + 1, gg, len, cc, L, by omega, by omega, HS2, HD4, rfl, by go_num⟩
          case measure => simp [intOf]; omega

        | true =>
          rw [hto] at HSN
          have HTO : Hid (T.o = true) := hto
          have HS2 : Hid (L ++ [(x : Int)] = dnL N root ((kl (lyP zs) n).take (t + 1))) := by show _ = _; rw [HSN.out]; simp
          clear hok HSN hto
          go_wp2_with (refine wpList_load_mid (by rfl) 89 _ (by rfl) g (t * 5) (by rfl) [.int .i64 nd.i, .int .i64 nd.f, .slice an nd.n cn, .int .i64 (x : Int), .int .i64 f] _ ?_ Try.underlying89 (by rfl) Try.infoSt ?_; exact R1.out)
          rw [← HW2.out, ← HV.out]
          refine Calls.mono KC.out ?_
          rintro e w3 ⟨a6, a11, a12, c6, c11, c12, F6, F11, F12, rfl, _, b3⟩
          obtain ⟨G, HG⟩ : ∃ v, Hid (v = w3.heap.size) := ⟨_, rfl⟩
          obtain ⟨w4, HW4⟩ : ∃ v, Hid (v = w3.alloc (.cells (slC T (.slice a6 T.p.m c6) (.slice a11 T.ze.length c11) (.slice a12 T.zr.length c12)) 79)) := ⟨_, rfl⟩
          have b4 : Below w3.heap.size w3 w4 := by rw [HW4.out]; exact (Below.refl _ _).alloc (Nat.le_refl _) _
          have RG : Hid (Row w4 G 79 (slC T (.slice a6 T.p.m c6) (.slice a11 T.ze.length c11) (.slice a12 T.zr.length c12))) := by show Row _ _ _ _; rw [HW4.out, HG.out]; exact Row.new w3 _ _
          have HD4 : Hid (DnI w w.heap.size g n z L gg len cc w4) := HD2.out.below (below2 b3 b4)
          have RV4 : Hid (Row w4 V 89 #[.int .i64 nd.i, .int .i64 nd.f, .slice an nd.n cn, .int .i64 (x : Int), .int .i64 f]) := (RV.out.below b3 RV.out.lt).below b4 (Nat.lt_of_lt_of_le RV.out.lt b3.size)
          have y10 := RG.out.cell 10
          simp at y10
          have v3' := RV4.out.cell 3
          simp at v3'
          clear b3 b4 KC R1 RV HD2

          rw [HTO.out] at y10
          have hsz := HD4.out.bw.size
          have HNE : Hid (∀ j u, ([.int .i64 (x : Int)] : List Value)[j]? = some u → (w4.alloc (.cells #[.int .i64 (x : Int)] 3)).cell? ((⟨w4.heap.size, 0, none⟩ : Addr).add j) = some u) := World.news_of_block (cs := #[.int .i64 (x : Int)]) (t := 3) (fr := (0, 0)) (heap_alloc_new w4 _)
          obtain ⟨w5, HW5⟩ : ∃ v, Hid (v = w4.alloc (.cells #[.int .i64 (x : Int)] 3)) := ⟨_, rfl⟩
          have b5 : Below w4.heap.size w4 w5 := by rw [HW5.out]; exact (Below.refl _ _).alloc (Nat.le_refl _) _
          have HD5 : Hid (DnI w w.heap.size g n z L gg len cc w5) := HD4.out.below b5
          have s5 := b5.size
          rw [← HW5.out] at HNE
          go_upto_region 6 with fail
          rw [← HW4.out, ← HG.out]
          go_wp2_with (at_builtin; rw [← HW5.out]; refine wpList_append_all _ (by rfl) _ _ 24 (by rfl) w.heap.size 3 i0 (.int .i64 0) 1 8 Try.underlying24 hi hz0 hz1 hz2 rfl (by decide) gg len cc (L.map (Value.int .i64)) (by rfl) ?_ ⟨w4.heap.size, 0, none⟩ 1 1 [.int .i64 (x : Int)] (by rfl) (by rfl) ?_ (by simp [Value.oneCell']) (by unfold maxLen; omega) (by omega) (by omega) ?_; exact HD5.out.ro; exact HNE.out; intro g3 cap3 w6 hown3 hgrow3)
          have HD6 : Hid (DnI w w.heap.size g n z (L ++ [(x : Int)]) g3 (len + 1) cap3 w6) := HD5.out.grow hown3 hgrow3
          clear hown3 hgrow3 HNE HD5 b5
          go_wp2
          go_roundw
          case rel => exact ⟨t + 1, g3, len + 1, cap3, L ++ [(x : Int)], by omega, by omega, HS2, HD6, rfl, by go_num⟩
          case measure => simp [intOf]; omega

    · obtain rfl : t = m := by omega
      have HF : Hid (OwnI wr w.heap.size (.slice (some ⟨gg, 0, none⟩) len cc) (dnL N root (kl (lyP zs) n))) := by
        have e : (kl (lyP zs) n).take t = kl (lyP zs) n := by rw [← HM.out, List.take_length]
        have h1 := HLL.out
        rw [e] at h1
        show OwnI _ _ _ _
        unfold OwnI
        rw [← h1, HD.out.ln]
        exact HD.out.ro
      have HB : Hid (Below w.heap.size w wr) := HD.out.bw
      clear HD
      go_wp2
      go_ret
      exact ⟨_, rfl, HF.out, HB.out⟩
end Go.Proofs.Ytggmcgcmpgofcaa
