/-
  The walk of the program's countLetters: an array, by value.
-/
import Derived.Test.YtpebgompfgkljaaBase
import Derived.Test.YtpebgompfgkljaaSlice
import Derived.Test.YtpebgompfgkljaaInts
import Derived.Test.YtpebgompfgkljaaWord
import Derived.Test.YtpebgompfgkljaaGrid
import Derived.Test.YtpebgompfgkljaaGlue
import Derived.Test.YtpebgompfgkljaaUses
import Derived.Deep.WholeRow
import Derived.Deep.Cut
namespace Go.Proofs.Ytpebgompfgkljaa
open Go.RowKit

set_option maxRecDepth 10000 in
set_option maxHeartbeats 1000000 in
theorem impl_countLetters (a : Option Addr) (c : Nat) (L : List (List Int)) (w : World) (ha : GridAt w a L) (hw : ∀ p ∈ L, Word.IsW p) (hl : sumLen L ≤ 1000) (hn : L.length ≤ 1000) :
    Calls Try.prog 144 #[.slice a L.length c] w fun e w' => e = .returned (.agg (intCells (Glue.uses L)).toArray) ∧ Below w.heap.size w w' := by
  generalize hN : w.heap.size = N at *
  have HN := Lib.hid hN
  have Ha := Lib.hid ha; have Hw := Lib.hid hw; have HL := Lib.hid hl
  clear ha hw hl
  go_enter Try.func144, Try.ntmps144
  go_wp2
  go_loopw [5, 7, 10] (fun _ _ iv wr => ∃ i : Nat, i ≤ L.length ∧ iv = .int .i64 i ∧ Below N w wr ∧ Hid (Blk wr N 88 (intCells (Glue.count [])).toArray ∧ Blk wr (N + 1) 88 (intCells (Glue.count (Glue.upTo L i 0))).toArray)) (fun _ _ iv _ => L.length - (intOf iv).toNat)
  case atStart =>
    refine ⟨0, by omega, rfl, ?_, Lib.hid ⟨?_, ?_⟩⟩
    · have h := ((Below.refl w.heap.size w).alloc (Nat.le_refl _) (.cells (intCells (Glue.count [])).toArray 88)).alloc (by simp) (.cells (intCells (Glue.count [])).toArray 88)
      rw [HN.out] at h; exact h
    · have h := (Blk.new w 88 (intCells (Glue.count [])).toArray).alloc (.cells (intCells (Glue.count [])).toArray 88)
      rw [HN.out] at h; exact h
    · have h := Blk.new (w.alloc (.cells (intCells (Glue.count [])).toArray 88)) 88 (intCells (Glue.count [])).toArray
      have e : (w.alloc (.cells (intCells (Glue.count [])).toArray 88)).heap.size = N + 1 := by rw [← HN.out]; simp
      rw [e] at h; exact h
  case round =>
    obtain ⟨i, hi, rfl, hb, hk⟩ := hrel
    by_cases hlt : i < L.length
    · obtain ⟨r, hr⟩ := get_some hlt
      have Hr := Lib.hid hr
      have hwi := Hw.out r (get_mem hr)
      have hll : r.length ≤ 24 := hwi.2
      have Hwi := Lib.hid hwi
      clear hr hwi
      obtain ⟨b, o, ai, ci, rfl, hbw, hcell0, hrow⟩ := Ha.out.get Hr.out
      have hcell : wr.cell? ⟨b, o + i, none⟩ = some (.slice ai r.length ci) := by rw [hb.cell (by rw [← HN.out]; exact hbw)]; exact hcell0
      have Hrow := Lib.hid hrow
      clear hcell0 hbw
      have Hb := Lib.hid hb
      clear hrow hb
      go_wp2
      go_loopw [7, 16] (fun _ jv w2 => ∃ j : Nat, j ≤ r.length ∧ jv = .int .i64 j ∧ Hid (Below N w w2) ∧ Hid (Blk w2 N 88 (intCells (Glue.count [])).toArray ∧ Blk w2 (N + 1) 88 (intCells (Glue.count (Glue.upTo L i j))).toArray)) (fun _ jv _ => r.length - (intOf jv).toNat)
      case atStart => exact ⟨0, by omega, rfl, Hb, hk⟩
      case round =>
        clear hk
        obtain ⟨j, hj, rfl, hb, hk⟩ := hrel
        by_cases hjt : j < r.length
        · obtain ⟨x, hx⟩ := get_some hjt
          obtain ⟨b', o', rfl, hbw', hcell'⟩ := intCells_get? (Hrow.out.below (by rw [HN.out]; exact hb.out)) hx
          have hstep := Glue.upTo_step Hr.out hx
          have hbd := Glue.upTo_len j Hr.out
          obtain ⟨hx0, hx1, hx2⟩ := Hwi.out.1 x (get_mem hx)
          have hput := count_cells (Glue.count (Glue.upTo L i j)) x
          rw [← Glue.count_snoc, ← hstep] at hput
          have hle := HL.out
          rw [sumLen_flat] at hle
          obtain ⟨hc0, hc1⟩ := Glue.count_bound (Glue.upTo L i j) x.natAbs (by omega)
          have hcx := ints_cell hk.out.2 (j := x.natAbs) (by rw [Glue.count_len]; omega)
          have hfz := hk.out.2.frozen x.natAbs
          generalize (Glue.count (Glue.upTo L i j)).getD x.natAbs 0 = s at *
          have hxa : x.natAbs < 9 := by omega
          have habs := fun W => impl_edgeOf x W (by omega) (by omega)
          generalize x.natAbs = xa at *
          have hxb : (xa : Int) < 9 := by omega
          have hxc : (0 : Int) ≤ (xa : Int) := by omega
          have Hput := Lib.hid hput; have Habs := Lib.hid habs
          clear hput hstep habs hx0 hx1 hx2 hx
          go_wp2_with fail
          refine (Habs.out _).mono ?_
          rintro e w1 ⟨rfl, rfl⟩
          go_wp2
          go_roundw
          case rel =>
            refine ⟨j + 1, by omega, by go_num, Lib.hid (hb.out.setCell (show N ≤ N + 1 by omega) _), Lib.hid ⟨hk.out.1.far (by show N ≠ N + 1; omega) _, ?_⟩⟩
            · have h := hk.out.2.put xa (.int .i64 (s + 1))
              rw [Hput.out] at h
              exact h
          case measure => simp [intOf]; omega
        · obtain rfl : j = r.length := by omega
          rw [Glue.upTo_next Hr.out] at hk
          go_wp2
          go_roundw
          case rel => exact ⟨i + 1, by omega, by go_num, hb.out, hk⟩
          case measure => simp [intOf]; omega
    · obtain rfl : i = L.length := by omega
      rw [Glue.upTo_all] at hk
      have hk1 : wr.heap[N]? = some (.cells (intCells (Glue.count [])).toArray 88 (0, 0)) := hk.out.1
      have hk2 : wr.heap[N + 1]? = some (.cells (intCells (Glue.uses L)).toArray 88 (0, 0)) := hk.out.2
      have hsz : (Try.prog.info? 88).map (·.size) = some (intCells (Glue.uses L)).toArray.size := by
        have h : (Try.prog.info? 88).map (·.size) = some 9 := by kernel_rfl
        rw [h]; simp [intCells_len, Glue.uses_len]
      have hold : (intCells (Glue.count [])).toArray.size = (intCells (Glue.uses L)).toArray.size := by simp [intCells_len, Glue.uses_len, Glue.count_len]
      have hall : (intCells (Glue.uses L)).toArray.all (·.oneCell') = true := by simp [intCells, Value.oneCell']
      generalize hY : (intCells (Glue.uses L)).toArray = Y at *
      have HY := Lib.hid hY
      clear hY
      have Hk1 := Lib.hid hk1; have Hk2 := Lib.hid hk2; have Hsz := Lib.hid hsz; have Hall := Lib.hid hall; have Hold := Lib.hid hold; have Hb := Lib.hid hb
      clear hk1 hk2 hsz hall hk hb hold
      go_upto_region 11 with fail
      apply wp_region_lit
      refine wpList_load_row rfl 88 (.tmp 3) rfl (N + 1) rfl 88 Y (0, 0) _ Hk2.out Try.underlying88 rfl Hsz.out ?_
      refine wpList_store_row rfl 88 (.tmp 2) (.tmp 28) rfl N Y rfl rfl 88 _ Hk1.out Hsz.out Hold.out Hall.out ?_
      apply wpList_nil
      have hb3 : Below N w (wr.setRow N Y) := ⟨Hb.out.os, Hb.out.tape, Hb.out.output, by rw [size_setRow]; exact Hb.out.size, fun k hk => (setRow_other wr N k Y (by omega)).trans (Hb.out.block k hk)⟩
      have hk3 : (wr.setRow N Y).heap[N]? = some (.cells Y 88 (0, 0)) := setRow_heap wr N _ Y 88 (0, 0) Hk1.out
      generalize wr.setRow N Y = w3 at *
      have Hb3 := Lib.hid hb3; have Hk3 := Lib.hid hk3
      clear hb3 hk3
      go_wp2
      exact bodyPost_ret (results_cell_row rfl _ _ N 88 Y (0, 0) _ rfl Hk3.out Try.underlying88 rfl Hsz.out) rfl ⟨by rw [HY.out], Hb3.out⟩
end Go.Proofs.Ytpebgompfgkljaa
