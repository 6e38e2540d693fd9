/-
  The walks that count how often letters occur: the model's l3Uses, the program's countLetters.
-/
import Derived.Test.YtpebgompfgkljaaBase
import Derived.Test.YtpebgompfgkljaaSlice
import Derived.Test.YtpebgompfgkljaaInts
import Derived.Test.YtpebgompfgkljaaWord
import Derived.Test.YtpebgompfgkljaaGrid
import Derived.Test.YtpebgompfgkljaaGlue
import Derived.StillTailTactics
import Derived.BigQuiet
namespace Go.Proofs.Ytpebgompfgkljaa
open Go.RowKit

set_option maxRecDepth 10000 in
set_option maxHeartbeats 400000 in
theorem spec_l1Max (x y : Int) (w : World) : Calls Try.prog 154 #[.int .i64 x, .int .i64 y] w fun e w' => e = .returned (.int .i64 (max x y)) ∧ w' = w := by
  by_cases h : x > y
  · have hd : max x y = x := by omega
    rw [hd]; clear hd
    go_enter Try.func154, Try.ntmps154
    go_wp2
    go_ret
    exact ⟨rfl, rfl⟩
  · have hd : max x y = y := by omega
    rw [hd]; clear hd
    go_enter Try.func154, Try.ntmps154
    go_wp2
    go_ret
    exact ⟨rfl, rfl⟩

set_option maxRecDepth 10000 in
set_option maxHeartbeats 400000 in
theorem spec_l3Abs (x : Int) (w : World) (h0 : -1000000 ≤ x) (h1 : x ≤ 1000000) : Calls Try.prog 146 #[.int .i64 x] w fun e w' => e = .returned (.int .i64 x.natAbs) ∧ w' = w := by
  have hc := spec_l1Max x (-x) w
  rw [show max x (-x) = (x.natAbs : Int) from by omega] at hc
  have Hc := Lib.hid hc
  clear hc
  go_enter Try.func146, Try.ntmps146
  go_wp2_with fail
  refine Hc.out.mono ?_
  rintro e w1 ⟨rfl, rfl⟩
  go_wp2
  go_ret
  exact ⟨rfl, rfl⟩

set_option maxRecDepth 10000 in
set_option maxHeartbeats 400000 in
theorem impl_edgeOf (x : Int) (w : World) (h0 : -1000000 ≤ x) (h1 : x ≤ 1000000) : Calls Try.prog 98 #[.int .i64 x] w fun e w' => e = .returned (.int .i64 x.natAbs) ∧ w' = w := by
  generalize hd : (x.natAbs : Int) = y
  have Hd := Lib.hid hd; clear hd
  by_cases hx : x < -x
  · go_enter Try.func98, Try.ntmps98
    go_wp2
    go_ret
    exact ⟨by rw [← Hd.out]; first | (rw [show (x.natAbs : Int) = -x from by omega]; rfl) | (rw [show (x.natAbs : Int) = max x (-x) from by omega]; rfl) | (rw [show (x.natAbs : Int) = max (-x) x from by omega]; rfl), rfl⟩
  · go_enter Try.func98, Try.ntmps98
    go_wp2
    go_ret
    exact ⟨by rw [← Hd.out]; first | (rw [show (x.natAbs : Int) = x from by omega]; rfl) | (rw [show (x.natAbs : Int) = max x (-x) from by omega]; rfl) | (rw [show (x.natAbs : Int) = max (-x) x from by omega]; rfl), rfl⟩

theorem nine_made : madeCells (Value.int .i64 0).cells 9 = (intCells (Glue.count [])).toArray := by
  show madeCells #[Value.int .i64 0] 9 = _
  rw [made_one]; rfl
theorem nine_make (w : World) : (Instr.makeSlice 42 (.int .i64 9) (.int .i64 9)).run Try.prog w = .ok (.slice (some ⟨w.heap.size, 0, none⟩) 9 9) (w.alloc (.cells (intCells (Glue.count [])).toArray 3)) := by
  obtain ⟨i0, hi, hz0, hz1, hz2⟩ := info_parts info_int
  have h := run_make_rowN (P := Try.prog) 42 3 i0 _ Try.underlying42 hi hz0 .i64 .i64 9 9 (Nat.le_refl _) (by rw [hz2]; omega) (by omega) w
  rw [hz1, Nat.mul_one, nine_made] at h
  exact h
theorem count_cells (s : List Int) (x : Int) : (intCells s).toArray.setIfInBounds x.natAbs (.int .i64 (s.getD x.natAbs 0 + 1)) = (intCells (Glue.put s x)).toArray := by
  unfold Glue.put
  simp [intCells, List.map_set]
theorem ints_cell {w : World} {g : Nat} {t : TypeId} {s : List Int} {j : Nat} (h : Blk w g t (intCells s).toArray) (hj : j < s.length) : w.cell? ⟨g, j, none⟩ = some (.int .i64 (s.getD j 0)) := by
  rw [h.cell j]; simp [intCells, List.getD_eq_getElem?_getD, hj]

set_option maxRecDepth 10000 in
set_option maxHeartbeats 1000000 in
theorem spec_l3Uses (a : Option Addr) (c : Nat) (L : List (List Int)) (w : World) (ha : GridAt w a L) (hw : ∀ p ∈ L, Word.IsW p) (hl : sumLen L ≤ 1000) (hn : L.length ≤ 1000) :
    Calls Try.prog 142 #[.slice a L.length c] w fun e w' => ∃ g, e = .returned (.slice (some ⟨g, 0, none⟩) 9 9) ∧ w.heap.size ≤ g ∧ Blk w' g 3 (intCells (Glue.uses L)).toArray ∧ Below w.heap.size w w' := by
  have hmk := nine_make w
  generalize hN : w.heap.size = N at *
  have HN := Lib.hid hN
  have Ha := Lib.hid ha; have Hw := Lib.hid hw; have HL := Lib.hid hl
  clear ha hw hl
  go_enter Try.func142, Try.ntmps142
  go_wp2
  go_loopw [4, 5] (fun iv _ wr => ∃ i : Nat, i ≤ L.length ∧ iv = .int .i64 i ∧ Below N w wr ∧ Hid (Blk wr N 3 (intCells (Glue.count (Glue.upTo L i 0))).toArray)) (fun iv _ _ => L.length - (intOf iv).toNat)
  case atStart => exact ⟨0, by omega, rfl, by have h := (Below.refl w.heap.size w).alloc (Nat.le_refl _) (.cells (intCells (Glue.count [])).toArray 3); rw [HN.out] at h; exact h, Lib.hid (by have h := Blk.new w 3 (intCells (Glue.count [])).toArray; rw [HN.out] at h; exact h)⟩
  case round =>
    obtain ⟨i, hi, rfl, hb, hk⟩ := hrel
    by_cases hlt : i < L.length
    · obtain ⟨r, hr⟩ := get_some hlt
      have Hr := Lib.hid hr
      have hwi := Hw.out r (get_mem hr)
      have hll : r.length ≤ 24 := hwi.2
      have Hwi := Lib.hid hwi
      clear hr hwi
      go_wp2
      go_loopw [5] (fun jv w2 => ∃ j : Nat, j ≤ r.length ∧ jv = .int .i64 j ∧ Below N w w2 ∧ Hid (Blk w2 N 3 (intCells (Glue.count (Glue.upTo L i j))).toArray)) (fun jv _ => r.length - (intOf jv).toNat)
      case atStart => exact ⟨0, by omega, rfl, hb, hk⟩
      case round =>
        clear hb hk
        obtain ⟨j, hj, rfl, hb, hk⟩ := hrel
        obtain ⟨b, o, ai, ci, rfl, hbw, hcell, hrow⟩ := (Ha.out.below (by rw [HN.out]; exact hb)).get Hr.out
        by_cases hjt : j < r.length
        · obtain ⟨x, hx⟩ := get_some hjt
          obtain ⟨b', o', rfl, hbw', hcell'⟩ := intCells_get? hrow hx
          have hstep := Glue.upTo_step Hr.out hx
          have hbd := Glue.upTo_len j Hr.out
          obtain ⟨hx0, hx1, hx2⟩ := Hwi.out.1 x (get_mem hx)
          have hput := count_cells (Glue.count (Glue.upTo L i j)) x
          rw [← Glue.count_snoc, ← hstep] at hput
          have hle := HL.out
          rw [sumLen_flat] at hle
          obtain ⟨hc0, hc1⟩ := Glue.count_bound (Glue.upTo L i j) x.natAbs (by omega)
          have hcx := ints_cell hk.out (j := x.natAbs) (by rw [Glue.count_len]; omega)
          have hfz := hk.out.frozen x.natAbs
          generalize (Glue.count (Glue.upTo L i j)).getD x.natAbs 0 = s at *
          have hxa : x.natAbs < 9 := by omega
          have habs := fun W => spec_l3Abs x W (by omega) (by omega)
          generalize x.natAbs = xa at *
          have hxb : (xa : Int) < 9 := by omega
          have hxc : (0 : Int) ≤ (xa : Int) := by omega
          have Hput := Lib.hid hput; have Habs := Lib.hid habs
          clear hput hstep hrow habs hx0 hx1 hx2 hx
          go_wp2
          go_still_tail 22, (by kernel_rfl)
          still_call (Habs.out _)
          repeat still_step
          still_call (Habs.out _)
          repeat still_step
          refine wpStill_nil ?_
          change wpList _ _ _ _ _ wr.drew
          go_wp2
          go_roundw
          case rel =>
            refine ⟨j + 1, by omega, by go_num, Below.setCell (below_drewN hb 1) (Nat.le_refl _) _, Lib.hid ?_⟩
            have h := (hk.out.drewN 1).put xa (.int .i64 (s + 1))
            rw [Hput.out] at h
            exact h
          case measure => simp [intOf]; omega
        · obtain rfl : j = r.length := by omega
          rw [Glue.upTo_next Hr.out] at hk
          go_wp2
          go_roundw
          case rel => exact ⟨i + 1, by omega, by go_num, hb, hk⟩
          case measure => simp [intOf]; omega
    · obtain rfl : i = L.length := by omega
      rw [Glue.upTo_all] at hk
      go_wp2
      go_ret
      exact ⟨N, rfl, Nat.le_refl _, hk.out, hb⟩
end Go.Proofs.Ytpebgompfgkljaa
