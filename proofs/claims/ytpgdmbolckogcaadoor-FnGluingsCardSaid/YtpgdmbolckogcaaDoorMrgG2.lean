/-
  Corners of polygons, and their classes: what the document says, and the walks of the program's cornerClasses and the model's l3Ends. The walks of the program's and the model's CountVertices and EulerOf. Classes merged in three loops in one another; how many classes there are, told by other labels. Connected parts: what the document says, and the walks of the program's and the model's PartsOf. Circles of the boundary: what the document says, and the walks of the program's and the model's CountBorders. Two-sided gluings: what the document says, and the walks of the program's and the model's IsTwoSided. The walks of the program's and the model's IsTwoSided.
-/
import Derived.Test.YtpgdmbolckogcaaDoorMrgG1
import Derived.Deep.QuietTactic
import Derived.BigQuiet
import Derived.StillTailTactics
namespace Go.Proofs.YtpgdmbolckogcaaDoor
open Go.RowKit

namespace Glue
/-- The beginning of a side, the end of one: numbers of the ends of letters. -/
def begN (x : Int) : Nat := if x < 0 then 2 * x.natAbs + 1 else 2 * x.natAbs
def endN (x : Int) : Nat := begN (-x)
theorem begN_lt {x : Int} (h : Word.Letter x) : begN x < 18 := by obtain ⟨h0, h1, h2⟩ := h; unfold begN; split <;> omega
theorem letter_neg {x : Int} (h : Word.Letter x) : Word.Letter (-x) := by obtain ⟨h0, h1, h2⟩ := h; exact ⟨by omega, by omega, by omega⟩
theorem endN_lt {x : Int} (h : Word.Letter x) : endN x < 18 := begN_lt (letter_neg h)
/-- The corner behind the side j of a polygon: the end of that side, the beginning of the next. -/
def corner (r : List Int) (j : Nat) : Nat × Nat := (endN (r.getD j 0), begN (r.getD ((j + 1) % r.length) 0))
def corners (L : List (List Int)) : List (Nat × Nat) := metAll corner L
/-- The classes of corners, by the ends of letters at them. -/
def cor (L : List (List Int)) : Nat → Nat := Cls.mergeAll (corners L)
theorem corner_at {r : List Int} {j : Nat} {x y : Int} (hx : r[j]? = some x) (hy : r[(j + 1) % r.length]? = some y) : corner r j = (endN x, begN y) := by
  unfold corner
  rw [List.getD_eq_getElem?_getD, hx, List.getD_eq_getElem?_getD, hy]; rfl
theorem corner_lt {r : List Int} (h : Word.IsW r) {j : Nat} (hj : j < r.length) : (corner r j).1 < 18 ∧ (corner r j).2 < 18 := by
  have h2 : (j + 1) % r.length < r.length := Nat.mod_lt _ (by omega)
  rw [corner_at (List.getElem?_eq_getElem hj) (List.getElem?_eq_getElem h2)]
  exact ⟨endN_lt (h.at hj), begN_lt (h.at h2)⟩
theorem corners_lt {L : List (List Int)} (h : ∀ p ∈ L, Word.IsW p) : ∀ p ∈ corners L, p.1 < 18 ∧ p.2 < 18 := by
  intro p hp
  obtain ⟨r, hr, j, hj, rfl⟩ := met_mem hp
  exact corner_lt (h r hr) hj
theorem cor_ok {L : List (List Int)} (h : ∀ p ∈ L, Word.IsW p) : Cls.Ok (cor L) 18 := Cls.Ok.all (corners_lt h)
end Glue

theorem mod_cast' (a n : Nat) : ((a : Nat) : Int) % (n : Int) = ((a % n : Nat) : Int) := (Int.natCast_emod a n).symm
theorem tmod_cast' (a n : Nat) : Int.tmod ((a : Nat) : Int) (n : Int) = ((a % n : Nat) : Int) := by
  rw [Int.tmod_eq_emod_of_nonneg (by omega)]; exact mod_cast' a n

set_option maxRecDepth 10000 in
theorem impl_beginOf (x : Int) (w : World) (h0 : -1000 ≤ x) (h1 : x ≤ 1000) : Calls Tryd.prog 67 #[.int .i64 x] w fun e w' => e = .returned (.int .i64 ((Glue.begN x : Nat) : Int)) ∧ w' = w := by
  by_cases h : x < 0
  · have hd : ((Glue.begN x : Nat) : Int) = -2 * x + 1 := by unfold Glue.begN; rw [if_pos h]; omega
    rw [hd]; clear hd
    go_enter Tryd.func67, Tryd.ntmps67
    go_wp2
    go_ret
    exact ⟨by simp, rfl⟩
  · have hd : ((Glue.begN x : Nat) : Int) = 2 * x := by unfold Glue.begN; rw [if_neg h]; omega
    rw [hd]; clear hd
    go_enter Tryd.func67, Tryd.ntmps67
    go_wp2
    go_ret
    exact ⟨rfl, rfl⟩

set_option maxRecDepth 10000 in
theorem impl_endOf (x : Int) (w : World) (h0 : -1000 ≤ x) (h1 : x ≤ 1000) : Calls Tryd.prog 68 #[.int .i64 x] w fun e w' => e = .returned (.int .i64 ((Glue.endN x : Nat) : Int)) ∧ w' = w := by
  have hc := impl_beginOf (-x) w (by omega) (by omega)
  unfold Glue.endN
  have Hc := Lib.hid hc
  clear hc
  go_enter Tryd.func68, Tryd.ntmps68
  go_wp2_with fail
  refine Hc.out.mono ?_
  rintro e w1 ⟨rfl, rfl⟩
  go_wp2
  go_ret
  exact ⟨rfl, rfl⟩

set_option maxRecDepth 10000 in
set_option maxHeartbeats 1000000 in
theorem impl_cornerClasses (a : Option Addr) (c : Nat) (L : List (List Int)) (w : World) (ha : GridAt w a L) (hw : ∀ p ∈ L, Word.IsW p) (hn : L.length ≤ 1000) :
    Calls Tryd.prog 70 #[.slice a L.length c] w fun e w' => ∃ g, e = .returned (.slice (some ⟨g, 0, none⟩) 18 18) ∧ w.heap.size ≤ g ∧ Lab w' g (Glue.cor L) 18 ∧ Below w.heap.size w w' := by
  have hnew := impl_newClasses 18 w (by omega)
  generalize hN : w.heap.size = N at *
  have HN := Lib.hid hN
  have Ha := Lib.hid ha; have Hw := Lib.hid hw; have Hnew := Lib.hid hnew
  clear ha hw hnew
  go_enter Tryd.func70, Tryd.ntmps70
  go_wp2_with fail
  refine Hnew.out.mono ?_
  rintro e w1 ⟨rfl, hk, hb⟩
  have Hk := Lib.hid hk; have Hb := Lib.hid hb
  clear hk hb
  go_wp2
  go_loopw [5, 6, 7, 8, 12] (fun _ _ _ _ iv wr => ∃ i : Nat, i ≤ L.length ∧ iv = .int .i64 i ∧ Below N w wr ∧ Hid (Lab wr N (Cls.mergeAll (met Glue.corner L i 0)) 18)) (fun _ _ _ _ iv _ => L.length - (intOf iv).toNat)
  case atStart => exact ⟨0, by omega, rfl, Hb.out, Lib.hid (by rw [met_zero]; exact Hk.out)⟩
  case round =>
    obtain ⟨i, hi, rfl, hb, hk⟩ := hrel
    by_cases hlt : i < L.length
    · obtain ⟨r, hr⟩ := get_some hlt
      have Hr := Lib.hid hr
      have hwi := Hw.out r (get_mem hr)
      have hll : r.length ≤ 24 := hwi.2
      have Hwi := Lib.hid hwi
      clear hr hwi
      obtain ⟨b, o, ai, ci, rfl, hbw, hcell0, hrow⟩ := Ha.out.get Hr.out
      have hcell : wr.cell? ⟨b, o + i, none⟩ = some (.slice ai r.length ci) := by rw [hb.cell (by rw [← HN.out]; exact hbw)]; exact hcell0
      have Hrow := Lib.hid hrow
      have Hb2 := Lib.hid hb
      clear hcell0 hbw hrow hb
      go_wp2
      go_loopw [6, 7, 8, 18] (fun _ _ _ jv w2 => ∃ j : Nat, j ≤ r.length ∧ jv = .int .i64 j ∧ Hid (Below N w w2) ∧ Hid (Lab w2 N (Cls.mergeAll (met Glue.corner L i j)) 18)) (fun _ _ _ jv _ => r.length - (intOf jv).toNat)
      case atStart => exact ⟨0, by omega, rfl, Hb2, hk⟩
      case round =>
        clear hk
        obtain ⟨j, hj, rfl, hb, hk⟩ := hrel
        by_cases hjt : j < r.length
        · obtain ⟨x, hx⟩ := get_some hjt
          have hmod : (j + 1) % r.length < r.length := Nat.mod_lt _ (by omega)
          obtain ⟨y, hy⟩ := get_some hmod
          have hrw := Hrow.out.below (by rw [HN.out]; exact hb.out)
          obtain ⟨b', o', rfl, hbw', hcell'⟩ := intCells_get? hrw hx
          obtain ⟨b'', o'', e2, _, hcell''⟩ := intCells_get? hrw hy
          cases e2
          have hstep := met_step (f := Glue.corner) j Hr.out
          rw [Glue.corner_at hx hy] at hstep
          have hLx := Hwi.out.1 x (get_mem hx)
          have hLy := Hwi.out.1 y (get_mem hy)
          have hex := Glue.endN_lt hLx
          have hby := Glue.begN_lt hLy
          obtain ⟨hx0, hx1, hx2⟩ := hLx
          obtain ⟨hy0, hy1, hy2⟩ := hLy
          have hend := fun W => impl_endOf x W (by omega) (by omega)
          have hbeg := fun W => impl_beginOf y W (by omega) (by omega)
          have hmr := fun za zb h1 h2 W hg => impl_mergeClasses N 18 18 (Cls.mergeAll (met Glue.corner L i j)) (Glue.endN x) (Glue.begN y) za zb h1 h2 W hg hex hby (by omega)
          rw [← Cls.mergeAll_snoc, ← hstep] at hmr
          have hm0 : 0 ≤ ((j : Int) + 1) % (r.length : Int) := Int.emod_nonneg _ (by omega)
          have hm1 : ((j : Int) + 1) % (r.length : Int) < (r.length : Int) := Int.emod_lt_of_pos _ (by omega)
          have hrl : ¬ ((r.length : Int) = 0) := by omega
          have Hstep := Lib.hid hstep; have Hend := Lib.hid hend; have Hbeg := Lib.hid hbeg; have Hmr := Lib.hid hmr; have Hkl := Lib.hid hk.out
          clear hstep hend hbeg hmr hrw hx hy hex hby hbw' hmod
          go_wp2_with fail
          refine (Hend.out _).mono ?_
          rintro e w2 ⟨rfl, rfl⟩
          go_wp2_with fail
          refine (Hbeg.out _).mono ?_
          rintro e w2 ⟨rfl, rfl⟩
          go_wp2_with fail
          refine (Hmr.out _ _ rfl rfl _ Hkl.out).mono ?_
          rintro e w2 ⟨rfl, hk2, hg2⟩
          have Hk2 := Lib.hid hk2; have Hg2 := Lib.hid hg2
          clear hk2 hg2 hcell' hcell'' hm0 hm1
          go_wp2
          go_roundw
          case rel => exact ⟨j + 1, by omega, by go_num, Lib.hid (hb.out.grown Hg2.out (by have := hb.out.size; rw [HN.out] at this; exact this) (fun k hk => by cases hk; exact Nat.le_refl _)), Hk2⟩
          case measure => simp [intOf]; omega
        · obtain rfl : j = r.length := by omega
          rw [met_next Hr.out] at hk
          go_wp2
          go_roundw
          case rel => exact ⟨i + 1, by omega, by go_num, hb.out, hk⟩
          case measure => simp [intOf]; omega
    · obtain rfl : i = L.length := by omega
      rw [met_end] at hk
      go_wp2
      go_ret
      exact ⟨N, rfl, Nat.le_refl _, hk.out, hb⟩

set_option maxRecDepth 10000 in
theorem spec_l1Bit (b : Bool) (w : World) : Calls Tryd.prog 72 #[.bool b] w fun e w' => e = .returned (.int .i64 (if b then 1 else 0)) ∧ w' = w := by
  cases b
  · go_enter Tryd.func72, Tryd.ntmps72
    go_wp2
    go_ret
    exact ⟨rfl, rfl⟩
  · go_enter Tryd.func72, Tryd.ntmps72
    go_wp2
    go_ret
    exact ⟨rfl, rfl⟩

/-- A row of the call's own, as the block that holds its numbers. -/
theorem own_lab {w : World} {base n : Nat} {v : Value} {ms : List Nat} (h : w.ownsRow base 3 1 v n (intCells (intsOf ms))) (hn : ms.length = n) (h0 : 0 < n) :
    ∃ g cap, v = .slice (some ⟨g, 0, none⟩) n cap ∧ base ≤ g ∧ n ≤ cap ∧ Lab w g (fun k => ms.getD k 0) n := by
  rcases h.2 with ⟨_, h2⟩ | ⟨g, cap, cur, rfl, hg, hh, hle, hm, hc, ht⟩
  · omega
  · refine ⟨g, cap, rfl, hg, hle, cur, hh, fun k hk => ?_⟩
    have e : (intCells (intsOf ms))[k]? = some (.int .i64 ((ms.getD k 0 : Nat) : Int)) := by
      have hk' : k < ms.length := by omega
      simp [intCells, intsOf, hk', List.getD_eq_getElem?_getD]
    rw [← ht, List.getElem?_take] at e
    split at e
    · simpa using e
    · cases e

theorem own_lab2 {w : World} {base n : Nat} {v : Value} {ms : List Nat} (h : w.ownsRow base 3 1 v n (intCells (intsOf ms))) (hn : ms.length = n) (h0 : v ≠ .slice none 0 0) :
    ∃ g cap, v = .slice (some ⟨g, 0, none⟩) n cap ∧ base ≤ g ∧ n ≤ cap ∧ Lab w g (fun k => ms.getD k 0) n := by
  rcases h.2 with ⟨h2, _⟩ | ⟨g, cap, cur, rfl, hg, hh, hle, hm, hc, ht⟩
  · exact absurd h2 h0
  · refine ⟨g, cap, rfl, hg, hle, cur, hh, fun k hk => ?_⟩
    have e : (intCells (intsOf ms))[k]? = some (.int .i64 ((ms.getD k 0 : Nat) : Int)) := by
      have hk' : k < ms.length := by omega
      simp [intCells, intsOf, hk', List.getD_eq_getElem?_getD]
    rw [← ht, List.getElem?_take] at e
    split at e
    · simpa using e
    · cases e

set_option maxRecDepth 10000 in
set_option maxHeartbeats 2000000 in
theorem spec_l3Ends (a : Option Addr) (c : Nat) (L : List (List Int)) (w : World) (ha : GridAt w a L) (hw : ∀ p ∈ L, Word.IsW p) (hn : L.length ≤ 1000) :
    Calls Tryd.prog 71 #[.slice a L.length c] w fun e w' => ∃ g cap, e = .returned (.slice (some ⟨g, 0, none⟩) 18 cap) ∧ w.heap.size ≤ g ∧ (∃ u d, Lab w' g u 18 ∧ Cls.Up u (Glue.cor L) d 18) ∧ Below w.heap.size w w' := by
  obtain ⟨i0, hi0, hz0, hz1, hz2⟩ := info_int_parts
  have Hi0 := Lib.hid hi0; have Hz0 := Lib.hid hz0; have Hz1 := Lib.hid hz1; have Hz2 := Lib.hid hz2
  have Ha := Lib.hid ha; have Hw := Lib.hid hw
  clear hi0 hz0 hz1 hz2 ha hw
  generalize hN : w.heap.size = N at *
  have HN := Lib.hid hN
  go_enter Tryd.func71, Tryd.ntmps71
  go_wp2
  go_loopw [3, 4] (fun ov iv wr => ∃ i : Nat, i ≤ 18 ∧ iv = .int .i64 i ∧ Below N w wr ∧ wr.ownsRow N 3 1 ov i (intCells (intsOf (List.range i)))) (fun _ iv _ => 18 - (intOf iv).toNat)
  case atStart => exact ⟨0, by omega, rfl, by have h := (Below.refl w.heap.size w).alloc (Nat.le_refl _) (.cells #[] 3); rw [HN.out] at h; exact h, by have h := own_made HN.out; rw [HN.out] at h; exact h⟩
  case round =>
    obtain ⟨i, hi, rfl, hb, hown⟩ := hrel
    by_cases hlt : i ≤ 17
    · have hNle : N ≤ wr.heap.size := by have := hb.size; rw [HN.out] at this; exact this
      have hst : List.range (i + 1) = List.range i ++ [i] := List.range_succ
      have Hst := Lib.hid hst
      obtain ⟨av, cv, rfl⟩ := own_len hown
      have hm1 : i + 1 ≤ maxLen := by unfold maxLen; omega
      have hm2 : (i + 1) * 8 ≤ 140737488355328 := by omega
      have hic : (i : Int) ≤ 17 := by omega
      generalize List.range i = X at *
      generalize hY : List.range (i + 1) = Y at *
      have HY := Lib.hid hY
      clear hY hst
      go_wp2_with (at_builtin; refine append_one rfl (.tmp 16) (.tmp 18) 36 rfl N 3 i0 _ 8 Tryd.underlying36 Hi0.out Hz0.out Hz1.out Hz2.out (by rfl) _ _ _ rfl hown (by rfl) _ rfl hm1 hm2 hNle ?_; intro v1 w1 hown1 hg1 _)
      go_roundw
      case rel =>
        refine ⟨i + 1, by omega, by go_num, Below.grown (hb.alloc hNle _) hg1 (by simp; omega) (fun k hk => (hown.lt k hk).1), ?_⟩
        rw [HY.out, Hst.out, intsOf_snoc, ← intCells_snoc]; exact hown1
      case measure => simp [intOf]; omega
    · obtain rfl : i = 18 := by omega
      rw [show (((18 : Nat)) : Int) = 18 from rfl]
      obtain ⟨g, cap, rfl, hgN, hcap, hlab⟩ := own_lab hown (by simp) (by omega)
      have hlab0 : Lab wr g id 18 := hlab.congr (fun k hk => by simp [List.getD_eq_getElem?_getD, hk])
      have Hlab := Lib.hid hlab0; have HgN := Lib.hid hgN; have Hb := Lib.hid hb
      clear hlab hlab0 hown hgN hb
      go_wp2
      go_loopw [5, 6, 7, 8, 9, 10] (fun iv _ _ _ _ _ wr => ∃ i : Nat, i ≤ L.length ∧ iv = .int .i64 i ∧ Below N w wr ∧ Hid (∃ u d, Lab wr g u 18 ∧ Cls.Up u (Cls.mergeAll (met Glue.corner L i 0)) d 18)) (fun iv _ _ _ _ _ _ => L.length - (intOf iv).toNat)
      case atStart => exact ⟨0, by omega, rfl, Hb.out, Lib.hid ⟨id, _, Hlab.out, by rw [met_zero]; exact Cls.Up.start 18⟩⟩
      case round =>
        obtain ⟨i, hi, rfl, hb, hk⟩ := hrel
        by_cases hlt : i < L.length
        · obtain ⟨r, hr⟩ := get_some hlt
          have Hr := Lib.hid hr
          have hwi := Hw.out r (get_mem hr)
          have hll : r.length ≤ 24 := hwi.2
          have Hwi := Lib.hid hwi
          have Hb2 := Lib.hid hb
          clear hr hwi hb
          go_wp2
          go_loopw [6, 7, 8, 9, 10] (fun jv _ _ _ _ w2 => ∃ j : Nat, j ≤ r.length ∧ jv = .int .i64 j ∧ Hid (Below N w w2) ∧ Hid (∃ u d, Lab w2 g u 18 ∧ Cls.Up u (Cls.mergeAll (met Glue.corner L i j)) d 18)) (fun jv _ _ _ _ _ => r.length - (intOf jv).toNat)
          case atStart => exact ⟨0, by omega, rfl, Hb2, hk⟩
          case round =>
            clear hk
            obtain ⟨j, hj, rfl, hb, hk⟩ := hrel
            obtain ⟨b, o, ai, ci, rfl, hbw, hcell, hrow⟩ := (Ha.out.below (by rw [HN.out]; exact hb.out)).get Hr.out
            by_cases hjt : j < r.length
            · obtain ⟨x, hx⟩ := get_some hjt
              have hmod : (j + 1) % r.length < r.length := Nat.mod_lt _ (by omega)
              obtain ⟨y, hy⟩ := get_some hmod
              obtain ⟨b', o', rfl, hbw', hcell'⟩ := intCells_get? hrow hx
              obtain ⟨b'', o'', e2, _, hcell''⟩ := intCells_get? hrow hy
              cases e2
              obtain ⟨u, d, hlab, hup⟩ := hk.out
              have hstep := met_step (f := Glue.corner) j Hr.out
              rw [Glue.corner_at hx hy] at hstep
              have hLx := Hwi.out.1 x (get_mem hx)
              have hLy := Hwi.out.1 y (get_mem hy)
              have hex := Glue.endN_lt hLx
              have hby := Glue.begN_lt hLy
              obtain ⟨hx0, hx1, hx2⟩ := hLx
              obtain ⟨hy0, hy1, hy2⟩ := hLy
              have hm0 : 0 ≤ ((j : Int) + 1) % (r.length : Int) := Int.emod_nonneg _ (by omega)
              have hm1 : ((j : Int) + 1) % (r.length : Int) < (r.length : Int) := Int.emod_lt_of_pos _ (by omega)
              have hrl : ¬ ((r.length : Int) = 0) := by omega
              have h0i : (0 : Int) ≤ (i : Int) := by omega
              have h1i : (i : Int) < (L.length : Int) := by omega
              have h0j : (0 : Int) ≤ (j : Int) := by omega
              have h1j : (j : Int) < (r.length : Int) := by omega
              -- the numbers of the two ends
              have hax := fun W => spec_l3Abs x W (by omega) (by omega)
              have hay := fun W => spec_l3Abs y W (by omega) (by omega)
              have Hax := Lib.hid hax; have Hay := Lib.hid hay
              obtain ⟨bx, hbx⟩ : ∃ bx, decide (0 < x) = bx := ⟨_, rfl⟩
              obtain ⟨bY, hbY⟩ : ∃ bY, decide (y < 0) = bY := ⟨_, rfl⟩
              have hnx : 2 * (x.natAbs : Int) + (if bx then 1 else 0) = ((Glue.endN x : Nat) : Int) := by
                subst hbx; unfold Glue.endN Glue.begN
                by_cases h : 0 < x
                · have h' : -x < 0 := by omega
                  simp only [h, h', decide_true, if_true]; omega
                · have h' : ¬ -x < 0 := by omega
                  simp only [h, h', decide_false, if_false, Bool.false_eq_true]; omega
              have hny : 2 * (y.natAbs : Int) + (if bY then 1 else 0) = ((Glue.begN y : Nat) : Int) := by
                subst hbY; unfold Glue.begN
                by_cases h : y < 0
                · simp only [h, decide_true, if_true]; omega
                · simp only [h, decide_false, if_false, Bool.false_eq_true]; omega
              have hbitx := fun W => spec_l1Bit bx W
              have hbity := fun W => spec_l1Bit bY W
              have hrx : 0 ≤ (if bx then (1 : Int) else 0) ∧ (if bx then (1 : Int) else 0) ≤ 1 := by cases bx <;> simp
              have hry : 0 ≤ (if bY then (1 : Int) else 0) ∧ (if bY then (1 : Int) else 0) ≤ 1 := by cases bY <;> simp
              generalize (if bx then (1 : Int) else 0) = tx at *
              generalize (if bY then (1 : Int) else 0) = ty at *
              have hxa : x.natAbs < 9 := by omega
              have hya : y.natAbs < 9 := by omega
              have Hnx := Lib.hid hnx; have Hny := Lib.hid hny; have Hbitx := Lib.hid hbitx; have Hbity := Lib.hid hbity
              clear hax hay hnx hny hbitx hbity
              generalize x.natAbs = xa at *
              generalize y.natAbs = ya at *
              obtain ⟨hrx0, hrx1⟩ := hrx
              obtain ⟨hry0, hry1⟩ := hry
              have hlk := hup.link (p := (Glue.endN x, Glue.begN y)) hex hby
              rw [← Cls.mergeAll_snoc, ← hstep] at hlk
              have hfx := fun z hz W h => spec_l3Find (some ⟨g, 0, none⟩) cap 18 u _ d (Glue.endN x) z hz W h hup hex (by omega)
              have hfy := fun z hz W h => spec_l3Find (some ⟨g, 0, none⟩) cap 18 u _ d (Glue.begN y) z hz W h hup hby (by omega)
              have hca := hup.ok.lt _ hex
              generalize Cls.mergeAll (met Glue.corner L i j) (Glue.endN x) = ra at *
              generalize Cls.mergeAll (met Glue.corner L i j) (Glue.begN y) = rb at *
              have Hfx := Lib.hid hfx; have Hfy := Lib.hid hfy; have Hlk := Lib.hid hlk; have Hrow := Lib.hid hlab
              clear hfx hfy hlk hup hstep hrow hx hy hex hby hbw' hmod hlab hx0 hx1 hx2 hy0 hy1 hy2
              go_wp2
              go_quiet (fail)
              have Hbq := Lib.hid (below_drewN hb.out nq)
              have Hrq := Lib.hid (Hrow.out.drewN nq)
              generalize wr.drewN nq = W0 at *
              clear hcell hcell' hcell''
              go_wp2_with fail
              refine (Hax.out _).mono ?_
              rintro e w2 ⟨rfl, rfl⟩
              go_wp2_with fail
              refine (Hbitx.out _).mono ?_
              rintro e w2 ⟨rfl, rfl⟩
              go_wp2_with fail
              refine (Hfx.out _ Hnx.out _ Hrq.out.row).mono ?_
              rintro e w2 ⟨rfl, rfl⟩
              go_wp2_with fail
              refine (Hay.out _).mono ?_
              rintro e w2 ⟨rfl, rfl⟩
              go_wp2_with fail
              refine (Hbity.out _).mono ?_
              rintro e w2 ⟨rfl, rfl⟩
              go_wp2_with fail
              refine (Hfy.out _ Hny.out _ Hrq.out.row).mono ?_
              rintro e w2 ⟨rfl, rfl⟩
              have hdst := Hrq.out.cell hca
              have hfz := Hrq.out.frozen ra
              have hput := Hrq.out.put (b := rb) hca
              have Hput := Lib.hid hput
              have hc0 : (0 : Int) ≤ (ra : Int) := by omega
              have hc1 : (ra : Int) < 18 := by omega
              clear hput
              go_wp2
              go_roundw
              case rel => exact ⟨j + 1, by omega, by go_num, Lib.hid (Hbq.out.setCell HgN.out _), Lib.hid ⟨_, _, Hput.out, Hlk.out⟩⟩
              case measure => simp [intOf]; omega
            · obtain rfl : j = r.length := by omega
              rw [met_next Hr.out] at hk
              go_wp2
              go_roundw
              case rel => exact ⟨i + 1, by omega, by go_num, hb.out, hk⟩
              case measure => simp [intOf]; omega
        · obtain rfl : i = L.length := by omega
          rw [met_end] at hk
          go_wp2
          go_ret
          exact ⟨g, cap, rfl, HgN.out, hk.out, hb⟩
end Go.Proofs.YtpgdmbolckogcaaDoor
namespace Go.Proofs.YtpgdmbolckogcaaDoor
open Go.RowKit

namespace Glue
/-- The letters that occur at least, and at most, some times, as numbers. -/
def lettersN (L : List (List Int)) (lo hi : Int) : List Nat := (List.range 9).filter fun k => decide (lo ≤ (uses L).getD k 0 ∧ (uses L).getD k 0 ≤ hi)
theorem letters_ofN (L : List (List Int)) (lo hi : Int) : letters L lo hi = intsOf (lettersN L lo hi) := rfl
theorem lettersN_lt {L : List (List Int)} {lo hi : Int} {k : Nat} (h : k ∈ lettersN L lo hi) : k < 9 := List.mem_range.1 (List.mem_filter.1 h).1
theorem lettersN_len (L : List (List Int)) (lo hi : Int) : (lettersN L lo hi).length ≤ 9 := by
  have := List.length_filter_le (fun k => decide (lo ≤ (uses L).getD k 0 ∧ (uses L).getD k 0 ≤ hi)) (List.range 9)
  rwa [List.length_range] at this
theorem lettersN_nodup (L : List (List Int)) (lo hi : Int) : (lettersN L lo hi).Nodup := List.nodup_range.filter _
/-- Both ends of letters. -/
def ends (ks : List Nat) : List Nat := ks.flatMap fun k => [2 * k, 2 * k + 1]
theorem ends_snoc (ks : List Nat) (k : Nat) : ends (ks ++ [k]) = ends ks ++ [2 * k] ++ [2 * k + 1] := by simp [ends]
theorem ends_mem {ks : List Nat} {m : Nat} : m ∈ ends ks ↔ m / 2 ∈ ks := by
  unfold ends
  rw [List.mem_flatMap]
  constructor
  · rintro ⟨k, hk, h⟩
    simp only [List.mem_cons, List.not_mem_nil, or_false] at h
    obtain rfl : m / 2 = k := by omega
    exact hk
  · intro h
    exact ⟨m / 2, h, by simp only [List.mem_cons, List.not_mem_nil, or_false]; omega⟩
theorem ends_nodup {ks : List Nat} (h : ks.Nodup) : (ends ks).Nodup := by
  induction ks with
  | nil => simp [ends]
  | cons k t ih =>
    rw [List.nodup_cons] at h
    show (([2 * k, 2 * k + 1] ++ ends t) : List Nat).Nodup
    rw [List.nodup_append]
    refine ⟨by simp, ih h.2, fun x hx y hy => ?_⟩
    rintro rfl
    simp only [List.mem_cons, List.not_mem_nil, or_false] at hx
    have := ends_mem.1 hy
    have e : x / 2 = k := by omega
    rw [e] at this
    exact h.1 this
theorem ends_len (ks : List Nat) : (ends ks).length = 2 * ks.length := by
  induction ks with
  | nil => rfl
  | cons k t ih => show ([2 * k, 2 * k + 1] ++ ends t).length = _; rw [List.length_append, ih]; simp; omega
theorem ends_take {ks : List Nat} {i k : Nat} (h : ks[i]? = some k) : ends (ks.take (i + 1)) = ends (ks.take i) ++ [2 * k] ++ [2 * k + 1] := by
  obtain ⟨h1, rfl⟩ := List.getElem?_eq_some_iff.1 h
  rw [List.take_succ_eq_append_getElem h1, ends_snoc]

/-- A letter that occurs is among them. -/
theorem occurs {L : List (List Int)} (h : IsG L) {r : List Int} (hr : r ∈ L) {x : Int} (hx : x ∈ r) : x.natAbs ∈ lettersN L 1 2 := by
  have hl := (h.w r hr).1 x hx
  have h9 : x.natAbs < 9 := by obtain ⟨_, _, _⟩ := hl; omega
  unfold lettersN
  rw [List.mem_filter]
  refine ⟨List.mem_range.2 h9, ?_⟩
  have hc := count_get L.flatten x.natAbs h9
  have hm : x ∈ L.flatten.filter fun y => y.natAbs == x.natAbs := by
    rw [List.mem_filter]; exact ⟨List.mem_flatten.2 ⟨r, hr, hx⟩, by simp⟩
  have hp := List.length_pos_of_mem hm
  have h2 : (uses L).getD x.natAbs 0 ≤ 2 := by
    have hk : x.natAbs < (uses L).length := by rw [uses_len]; exact h9
    rw [← uses_at _ hk]; exact h.2.2.2.2 _ (List.getElem_mem hk)
  unfold uses at h2 ⊢
  simp only [decide_eq_true_eq]
  omega
theorem endN_half (x : Int) : endN x / 2 = x.natAbs := by unfold endN begN; split <;> omega
theorem begN_half (x : Int) : begN x / 2 = x.natAbs := by unfold begN; split <;> omega
theorem corners_in {L : List (List Int)} (h : IsG L) : ∀ p ∈ corners L, p.1 ∈ ends (lettersN L 1 2) ∧ p.2 ∈ ends (lettersN L 1 2) := by
  intro p hp
  obtain ⟨r, hr, j, hj, rfl⟩ := met_mem hp
  have h2 : (j + 1) % r.length < r.length := Nat.mod_lt _ (by omega)
  rw [corner_at (List.getElem?_eq_getElem hj) (List.getElem?_eq_getElem h2)]
  exact ⟨ends_mem.2 (by rw [endN_half]; exact occurs h hr (List.getElem_mem hj)), ends_mem.2 (by rw [begN_half]; exact occurs h hr (List.getElem_mem h2))⟩
/-- The number of classes of corners. -/
def vertices (L : List (List Int)) : Nat := Cls.tally (cor L) (ends (lettersN L 1 2))
theorem vertices_found {L : List (List Int)} (h : IsG L) : (Cls.found (cor L) (ends (lettersN L 1 2))).length = vertices L := by
  refine (Cls.tally_found (ends_nodup (lettersN_nodup L 1 2)) (Cls.closed (S := fun m => m ∈ ends (lettersN L 1 2)) (corners_in h)) fun m hm => ?_).symm
  exact (cor_ok h.w).idem m (by have := lettersN_lt (ends_mem.1 hm); omega)
def numVertices (L : List (List Int)) : Int := if IsG L then (vertices L : Int) else -1
theorem vertices_le (L : List (List Int)) : vertices L ≤ 18 := by
  have h1 := Cls.tally_le (cor L) (ends (lettersN L 1 2))
  have h2 := lettersN_len L 1 2
  rw [ends_len] at h1
  unfold vertices; omega
end Glue

set_option maxRecDepth 10000 in
set_option maxHeartbeats 2000000 in
theorem spec_CountVertices (a : Option Addr) (c : Nat) (L : List (List Int)) (w : World) (ha : GridAt w a L) (hl : tot L ≤ 1048576) :
    Calls Tryd.prog 29 #[.slice a L.length c] w fun e w' => e = .returned (.int .i64 (Glue.numVertices L)) ∧ Below w.heap.size w w' := by
  have hG := spec_IsGluing a c L w ha hl
  generalize hv : Glue.numVertices L = V
  unfold Glue.numVertices at hv
  have Ha := Lib.hid ha
  by_cases hg : Glue.IsG L
  · rw [if_pos hg] at hv
    rw [decide_eq_true hg] at hG
    have hE := fun W (h : GridAt W a L) => spec_l3Ends a c L W h hg.w (Nat.le_trans hg.2.1 (by decide))
    have hC := fun W (h : GridAt W a L) => spec_l3Letters a c L 1 2 W h hg.w (Nat.le_trans hg.2.2.2.1 (by decide)) (Nat.le_trans hg.2.1 (by decide)) (by omega)
    rw [Glue.letters_ofN] at hC
    unfold Glue.vertices at hv
    have hlt := fun k => Glue.lettersN_lt (L := L) (lo := 1) (hi := 2) (k := k)
    have hlen := Glue.lettersN_len L 1 2
    have HG := Lib.hid hG; have HE := Lib.hid hE; have HC := Lib.hid hC; have Hlt := Lib.hid hlt
    clear hG hE hC hg ha hlt
    generalize Glue.lettersN L 1 2 = K at *
    generalize Glue.cor L = cc at *
    have Hv := Lib.hid hv
    clear hv
    go_enter Tryd.func29, Tryd.ntmps29
    go_wp2_with fail
    refine HG.out.mono ?_
    rintro e w1 ⟨rfl, hb1⟩
    go_wp2_with fail
    refine (HE.out w1 (Ha.out.below hb1)).mono ?_
    rintro e w2 ⟨g, cap, rfl, hg, ⟨u, d, hlab, hup⟩, hb2⟩
    have hb02 := hb1.trans (hb2.mono hb1.size)
    go_wp2_with fail
    refine (HC.out w2 (Ha.out.below hb02)).mono ?_
    rintro e w3 ⟨ra, rc, rfl, h1, h2, h3, h4⟩
    rw [intsOf_len]
    have hb03 := hb02.trans (h4.mono hb02.size)
    have Hlab := Lib.hid (hlab.below h4 hlab.lt); have Hrow := Lib.hid h3.row; have Hb := Lib.hid hb03; have Hup := Lib.hid hup
    clear hb1 hb2 hb02 hb03 h1 h2 h3 h4 hlab hg hup
    go_wp2
    go_loopw [5, 6] (fun sv iv wr => ∃ i : Nat, i ≤ K.length ∧ iv = .int .i64 i ∧ sv = .int .i64 ((Cls.tally cc (Glue.ends (K.take i)) : Nat) : Int) ∧ Hid (Below w3.heap.size w3 wr)) (fun _ iv _ => K.length - (intOf iv).toNat)
    case atStart => exact ⟨0, by omega, rfl, rfl, Lib.hid (Below.refl _ _)⟩
    case round =>
      obtain ⟨i, hi, rfl, rfl, hb⟩ := hrel
      by_cases hlti : i < K.length
      · obtain ⟨k, hk⟩ := get_some hlti
        obtain ⟨b, o, rfl, hbw, hcell⟩ := intCells_get? (Hrow.out.below hb.out) (intsOf_get hk)
        have hk9 := Hlt.out k (get_mem hk)
        have hlabw := Hlab.out.below hb.out Hlab.out.lt
        have hc1 := hlabw.cell (k := 2 * k) (by omega)
        have hc2 := hlabw.cell (k := 2 * k + 1) (by omega)
        have hr1 := Hup.out.root (2 * k) (by omega)
        have hr2 := Hup.out.root (2 * k + 1) (by omega)
        have hst := Glue.ends_take hk
        have htl := Cls.tally_le cc (Glue.ends (K.take (i + 1)))
        rw [Glue.ends_len, List.length_take] at htl
        have htally : Cls.tally cc (Glue.ends (K.take (i + 1))) = Cls.tally cc (Glue.ends (K.take i)) + (if cc (2 * k) = 2 * k then 1 else 0) + (if cc (2 * k + 1) = 2 * k + 1 then 1 else 0) := by
          rw [hst, Cls.tally_snoc, Cls.tally_snoc]
        generalize u (2 * k) = u1 at *
        generalize u (2 * k + 1) = u2 at *
        obtain ⟨b1, hb1⟩ : ∃ b1, ((u1 : Int) == 2 * (k : Int)) = b1 := ⟨_, rfl⟩
        obtain ⟨b2, hb2⟩ : ∃ b2, ((u2 : Int) == 2 * (k : Int) + 1) = b2 := ⟨_, rfl⟩
        have ht1 : (((if cc (2 * k) = 2 * k then 1 else 0) : Nat) : Int) = if b1 then 1 else 0 := by
          subst hb1
          by_cases h : u1 = 2 * k
          · rw [if_pos (hr1.1 h), if_pos (by simp; omega)]; rfl
          · rw [if_neg (fun hh => h (hr1.2 hh)), if_neg (by simp; omega)]; rfl
        have ht2 : (((if cc (2 * k + 1) = 2 * k + 1 then 1 else 0) : Nat) : Int) = if b2 then 1 else 0 := by
          subst hb2
          by_cases h : u2 = 2 * k + 1
          · rw [if_pos (hr2.1 h), if_pos (by simp; omega)]; rfl
          · rw [if_neg (fun hh => h (hr2.2 hh)), if_neg (by simp; omega)]; rfl
        generalize (if cc (2 * k) = 2 * k then 1 else 0 : Nat) = n1 at *
        generalize (if cc (2 * k + 1) = 2 * k + 1 then 1 else 0 : Nat) = n2 at *
        generalize Cls.tally cc (Glue.ends (K.take i)) = S at *
        generalize hS' : Cls.tally cc (Glue.ends (K.take (i + 1))) = S' at *
        have hbit1 := fun W => spec_l1Bit b1 W
        have hbit2 := fun W => spec_l1Bit b2 W
        rw [← ht1] at hbit1
        rw [← ht2] at hbit2
        have Hbit1 := Lib.hid hbit1; have Hbit2 := Lib.hid hbit2; have HS' := Lib.hid hS'; have Htally := Lib.hid htally
        have h0i : (0 : Int) ≤ (i : Int) := by omega
        have h1i : (i : Int) < (K.length : Int) := by omega
        have hSb : S + n1 + n2 ≤ 100 := by omega
        have hk0 : (0 : Int) ≤ 2 * (k : Int) := by omega
        have hk1 : 2 * (k : Int) < 18 := by omega
        have hk2 : (0 : Int) ≤ 2 * (k : Int) + 1 := by omega
        have hk3 : 2 * (k : Int) + 1 < 18 := by omega
        clear ht1 ht2 hbit1 hbit2 hr1 hr2 hst htl hk hS' htally hlabw
        go_wp2
        go_quiet (first | exact Calls.quiet_of_same (Hbit1.out _) | exact Calls.quiet_of_same (Hbit2.out _))
        all_goals go_wp2
        all_goals
          go_roundw
          case rel => exact ⟨i + 1, by omega, by go_num, by rw [HS'.out, Htally.out]; go_num, Lib.hid (below_drewN hb.out _)⟩
          case measure => simp [intOf]; omega
      · obtain rfl : i = K.length := by omega
        rw [List.take_of_length_le (Nat.le_refl _), Hv.out]
        go_wp2
        go_ret
        exact ⟨rfl, Hb.out.trans (hb.out.mono Hb.out.size)⟩
  · rw [if_neg hg] at hv
    rw [decide_eq_false hg] at hG
    have HG := Lib.hid hG; have Hv := Lib.hid hv
    clear hG hg ha hv
    go_enter Tryd.func29, Tryd.ntmps29
    go_wp2_with fail
    refine HG.out.mono ?_
    rintro e w1 ⟨rfl, hb1⟩
    go_wp2
    go_ret
    exact ⟨by rw [← Hv.out]; rfl, hb1⟩

namespace Glue
theorem edgeLetters_N {L : List (List Int)} (h : IsG L) : edgeLetters L = intsOf (lettersN L 1 2) := by rw [edgeLetters, if_pos h, letters_ofN]
theorem freeLetters_N {L : List (List Int)} (h : IsG L) : freeLetters L = intsOf (lettersN L 1 1) := by rw [freeLetters, if_pos h, letters_ofN]
theorem lettersN_pos {L : List (List Int)} (h : IsG L) {lo hi : Int} (hl : 1 ≤ lo) {k : Nat} (hk : k ∈ lettersN L lo hi) : 0 < k := by
  rcases Nat.eq_zero_or_pos k with rfl | h0
  · have := (List.mem_filter.1 hk).2
    have hz : (uses L).getD 0 0 = 0 := count_zero (letters_of h.w)
    rw [hz] at this
    simp only [decide_eq_true_eq] at this
    omega
  · exact h0
theorem begN_nat (k : Nat) : begN (k : Int) = 2 * k := by unfold begN; rw [if_neg (by omega)]; omega
theorem endN_nat {k : Nat} (h : 0 < k) : endN (k : Int) = 2 * k + 1 := by unfold endN begN; rw [if_pos (by omega)]; omega
def numEuler (L : List (List Int)) : Int := if IsG L then (vertices L : Int) - ((lettersN L 1 2).length : Int) + (L.length : Int) else -100
end Glue

set_option maxRecDepth 10000 in
set_option maxHeartbeats 2000000 in
theorem impl_CountVertices (a : Option Addr) (c : Nat) (L : List (List Int)) (w : World) (ha : GridAt w a L) (hl : tot L ≤ 1048576) :
    Calls Tryd.prog 28 #[.slice a L.length c] w fun e w' => e = .returned (.int .i64 (Glue.numVertices L)) ∧ Below w.heap.size w w' := by
  have hG := impl_IsGluing a c L w ha hl
  generalize hv : Glue.numVertices L = V
  unfold Glue.numVertices at hv
  have Ha := Lib.hid ha
  by_cases hg : Glue.IsG L
  · rw [if_pos hg, ← Glue.vertices_found hg] at hv
    rw [decide_eq_true hg] at hG
    have hE := fun W (h : GridAt W a L) => impl_EdgeLetters a c L W h hl
    rw [Glue.edgeLetters_N hg] at hE
    have hC := fun W (h : GridAt W a L) => impl_cornerClasses a c L W h hg.w (Nat.le_trans hg.2.1 (by decide))
    have hlt := fun k => Glue.lettersN_lt (L := L) (lo := 1) (hi := 2) (k := k)
    have hpos := fun k => Glue.lettersN_pos hg (lo := 1) (hi := 2) (k := k) (by omega)
    have hlen := Glue.lettersN_len L 1 2
    obtain ⟨i0, hi0, hz0, hz1, hz2⟩ := info_int_parts
    have Hi0 := Lib.hid hi0; have Hz0 := Lib.hid hz0; have Hz1 := Lib.hid hz1; have Hz2 := Lib.hid hz2
    have HG := Lib.hid hG; have HE := Lib.hid hE; have HC := Lib.hid hC; have Hlt := Lib.hid hlt; have Hpos := Lib.hid hpos
    clear hG hE hC hg ha hlt hpos hi0 hz0 hz1 hz2
    generalize Glue.lettersN L 1 2 = K at *
    generalize Glue.cor L = cc at *
    have Hv := Lib.hid hv
    clear hv
    generalize hN : w.heap.size = N at *
    have HN := Lib.hid hN
    go_enter Tryd.func28, Tryd.ntmps28
    go_wp2_with fail
    refine HG.out.mono ?_
    rintro e w1 ⟨rfl, hb1⟩
    go_wp2_with fail
    refine (HE.out w1 (Ha.out.below (by rw [HN.out]; exact hb1))).mono ?_
    rintro e w2 ⟨ra, rc, rfl, h1, h2, h3, h4⟩
    rw [intsOf_len]
    have hb02 : Below N w w2 := hb1.trans (h4.mono (by have := hb1.size; rw [HN.out] at this; exact this))
    have Hrow := Lib.hid h3.row; have Hb := Lib.hid hb02
    clear hb1 hb02 h1 h2 h3 h4
    go_wp2
    go_loopw [3, 5, 12] (fun ov _ iv wr => ∃ i : Nat, i ≤ K.length ∧ iv = .int .i64 i ∧ Hid (Below w2.heap.size w2 wr) ∧ wr.ownsRow w2.heap.size 3 1 ov (Glue.ends (K.take i)).length (intCells (intsOf (Glue.ends (K.take i))))) (fun _ _ iv _ => K.length - (intOf iv).toNat)
    case atStart => exact ⟨0, by omega, rfl, Lib.hid (Below.refl _ _), World.ownsRow_nil _ _ _ _⟩
    case round =>
      obtain ⟨i, hi, rfl, hb, hown⟩ := hrel
      by_cases hlti : i < K.length
      · obtain ⟨k, hk⟩ := get_some hlti
        obtain ⟨b, o, rfl, hbw, hcell⟩ := intCells_get? (Hrow.out.below hb.out) (intsOf_get hk)
        have hk9 := Hlt.out k (get_mem hk)
        have hkp := Hpos.out k (get_mem hk)
        have hbeg := fun W => impl_beginOf (k : Int) W (by omega) (by omega)
        have hend := fun W => impl_endOf (k : Int) W (by omega) (by omega)
        rw [Glue.begN_nat] at hbeg
        rw [Glue.endN_nat hkp] at hend
        have hst := Glue.ends_take hk
        have hln := Glue.ends_len (K.take i)
        rw [List.length_take] at hln
        generalize hX : Glue.ends (K.take i) = X at *
        generalize hY : Glue.ends (K.take (i + 1)) = Y at *
        have HY := Lib.hid hY; have Hst := Lib.hid hst; have Hbeg := Lib.hid hbeg; have Hend := Lib.hid hend
        have hNle : w2.heap.size ≤ wr.heap.size := hb.out.size
        have hm1 : X.length + 2 ≤ maxLen := by unfold maxLen; omega
        have hm2 : (X.length + 2) * 8 ≤ 140737488355328 := by omega
        obtain ⟨av, cv, rfl⟩ := own_len hown
        clear hX hY hst hbeg hend hk hln
        generalize 2 * k + 1 = m2 at *
        generalize 2 * k = m1 at *
        go_wp2_with fail
        refine (Hbeg.out _).mono ?_
        rintro e w3 ⟨rfl, rfl⟩
        go_wp2_with fail
        refine (Hend.out _).mono ?_
        rintro e w3 ⟨rfl, rfl⟩
        go_wp2_with (at_builtin; refine append_two rfl (.tmp 16) (.tmp 21) 36 rfl w2.heap.size 3 i0 _ 8 Tryd.underlying36 Hi0.out Hz0.out Hz1.out Hz2.out (by rfl) _ _ _ rfl hown (by rfl) (by rfl) _ rfl hm1 hm2 hNle ?_; intro v1 w1 hown1 hg1)
        go_roundw
        case rel =>
          refine ⟨i + 1, by omega, by go_num, Lib.hid (Below.grown (hb.out.alloc hNle _) hg1 (by simp; omega) (fun k hk => (hown.lt k hk).1)), ?_⟩
          rw [HY.out, Hst.out, intsOf_snoc, intsOf_snoc, ← intCells_snoc, ← intCells_snoc, List.length_append, List.length_append, List.append_assoc]; exact hown1
        case measure => simp [intOf]; omega
      · obtain rfl : i = K.length := by omega
        rw [List.take_of_length_le (Nat.le_refl _)] at hown
        obtain ⟨av, cv, rfl, hrow⟩ := own_row hown (by rw [intCells_len, intsOf_len])
        have hbw := Hb.out.trans (hb.out.mono (by have := Hb.out.size; rw [HN.out] at this; exact this))
        have hln := Glue.ends_len K
        have hmem : ∀ m ∈ Glue.ends K, m < 18 := fun m hm => by have := Hlt.out _ (Glue.ends_mem.1 hm); omega
        generalize Glue.ends K = E at *
        have hel : E.length ≤ 18 := by omega
        have Hown := Lib.hid hown; have Hrw := Lib.hid hrow; have Hbw := Lib.hid hbw; have Hmem := Lib.hid hmem
        clear hown hrow hbw hln hmem
        go_wp2_with fail
        refine (HC.out wr (Ha.out.below (by rw [HN.out]; exact Hbw.out))).mono ?_
        rintro e w4 ⟨g, rfl, hgg, hlab, hb4⟩
        go_wp2_with fail
        refine (impl_countClasses (some ⟨g, 0, none⟩) av 18 cv 18 cc E w4 hlab.row (Hrw.out.below hb4) Hmem.out (by omega) (by omega)).mono ?_
        rintro e w5 ⟨rfl, hb5⟩
        rw [Hv.out]
        go_wp2
        go_ret
        have hb45 := hb4.trans (hb5.mono hb4.size)
        exact ⟨rfl, Hbw.out.trans (hb45.mono (by have := Hbw.out.size; rw [HN.out] at this; exact this))⟩
  · rw [if_neg hg] at hv
    rw [decide_eq_false hg] at hG
    have HG := Lib.hid hG; have Hv := Lib.hid hv
    clear hG hg ha hv
    go_enter Tryd.func28, Tryd.ntmps28
    go_wp2_with fail
    refine HG.out.mono ?_
    rintro e w1 ⟨rfl, hb1⟩
    go_wp2
    go_ret
    exact ⟨by rw [← Hv.out]; rfl, hb1⟩

set_option maxRecDepth 10000 in
set_option maxHeartbeats 2000000 in
theorem spec_EulerOf (a : Option Addr) (c : Nat) (L : List (List Int)) (w : World) (ha : GridAt w a L) (hl : tot L ≤ 1048576) :
    Calls Tryd.prog 31 #[.slice a L.length c] w fun e w' => e = .returned (.int .i64 (Glue.numEuler L)) ∧ Below w.heap.size w w' := by
  have hG := spec_IsGluing a c L w ha hl
  have hV := fun W (h : GridAt W a L) => spec_CountVertices a c L W h hl
  generalize hv : Glue.numEuler L = V
  unfold Glue.numEuler at hv
  unfold Glue.numVertices at hV
  have Ha := Lib.hid ha
  by_cases hg : Glue.IsG L
  · rw [if_pos hg] at hv
    simp only [if_pos hg] at hV
    rw [decide_eq_true hg] at hG
    have hC := fun W (h : GridAt W a L) => spec_l3Letters a c L 1 2 W h hg.w (Nat.le_trans hg.2.2.2.1 (by decide)) (Nat.le_trans hg.2.1 (by decide)) (by omega)
    rw [Glue.letters_ofN] at hC
    have hlen := Glue.lettersN_len L 1 2
    have hvl := Glue.vertices_le L
    have hl4 := hg.2.1
    have HG := Lib.hid hG; have HV := Lib.hid hV; have HC := Lib.hid hC
    clear hG hV hC hg ha
    generalize Glue.lettersN L 1 2 = K at *
    generalize Glue.vertices L = n at *
    have Hv := Lib.hid hv
    clear hv
    go_enter Tryd.func31, Tryd.ntmps31
    go_wp2_with fail
    refine HG.out.mono ?_
    rintro e w1 ⟨rfl, hb1⟩
    go_wp2_with fail
    refine (HV.out w1 (Ha.out.below hb1)).mono ?_
    rintro e w2 ⟨rfl, hb2⟩
    have hb02 := hb1.trans (hb2.mono hb1.size)
    go_wp2_with fail
    refine (HC.out w2 (Ha.out.below hb02)).mono ?_
    rintro e w3 ⟨ra, rc, rfl, h1, h2, h3, h4⟩
    rw [intsOf_len]
    have Hb := Lib.hid (hb02.trans (h4.mono hb02.size))
    clear hb1 hb2 hb02 h1 h2 h3 h4
    go_wp2
    go_ret
    exact ⟨by rw [← Hv.out]; rfl, Hb.out⟩
  · rw [if_neg hg] at hv
    rw [decide_eq_false hg] at hG
    have HG := Lib.hid hG; have Hv := Lib.hid hv
    clear hG hg ha hv hV
    go_enter Tryd.func31, Tryd.ntmps31
    go_wp2_with fail
    refine HG.out.mono ?_
    rintro e w1 ⟨rfl, hb1⟩
    go_wp2
    go_ret
    exact ⟨by rw [← Hv.out]; rfl, hb1⟩

set_option maxRecDepth 10000 in
set_option maxHeartbeats 2000000 in
theorem impl_EulerOf (a : Option Addr) (c : Nat) (L : List (List Int)) (w : World) (ha : GridAt w a L) (hl : tot L ≤ 1048576) :
    Calls Tryd.prog 30 #[.slice a L.length c] w fun e w' => e = .returned (.int .i64 (Glue.numEuler L)) ∧ Below w.heap.size w w' := by
  have hG := impl_IsGluing a c L w ha hl
  have hV := fun W (h : GridAt W a L) => impl_CountVertices a c L W h hl
  have hC := fun W (h : GridAt W a L) => impl_EdgeLetters a c L W h hl
  generalize hv : Glue.numEuler L = V
  unfold Glue.numEuler at hv
  unfold Glue.numVertices at hV
  have Ha := Lib.hid ha
  by_cases hg : Glue.IsG L
  · rw [if_pos hg] at hv
    simp only [if_pos hg] at hV
    rw [decide_eq_true hg] at hG
    rw [Glue.edgeLetters_N hg] at hC
    have hlen := Glue.lettersN_len L 1 2
    have hvl := Glue.vertices_le L
    have hl4 := hg.2.1
    have HG := Lib.hid hG; have HV := Lib.hid hV; have HC := Lib.hid hC
    clear hG hV hC hg ha
    generalize Glue.lettersN L 1 2 = K at *
    generalize Glue.vertices L = n at *
    have Hv := Lib.hid hv
    clear hv
    go_enter Tryd.func30, Tryd.ntmps30
    go_wp2_with fail
    refine HG.out.mono ?_
    rintro e w1 ⟨rfl, hb1⟩
    go_wp2_with fail
    refine (HV.out w1 (Ha.out.below hb1)).mono ?_
    rintro e w2 ⟨rfl, hb2⟩
    have hb02 := hb1.trans (hb2.mono hb1.size)
    go_wp2_with fail
    refine (HC.out w2 (Ha.out.below hb02)).mono ?_
    rintro e w3 ⟨ra, rc, rfl, h1, h2, h3, h4⟩
    rw [intsOf_len]
    have Hb := Lib.hid (hb02.trans (h4.mono hb02.size))
    clear hb1 hb2 hb02 h1 h2 h3 h4
    go_wp2
    go_ret
    exact ⟨by rw [← Hv.out]; rfl, Hb.out⟩
  · rw [if_neg hg] at hv
    rw [decide_eq_false hg] at hG
    have HG := Lib.hid hG; have Hv := Lib.hid hv
    clear hG hg ha hv hV hC
    go_enter Tryd.func30, Tryd.ntmps30
    go_wp2_with fail
    refine HG.out.mono ?_
    rintro e w1 ⟨rfl, hb1⟩
    go_wp2
    go_ret
    exact ⟨by rw [← Hv.out]; rfl, hb1⟩
end Go.Proofs.YtpgdmbolckogcaaDoor
namespace Go.Proofs.YtpgdmbolckogcaaDoor
open Go.RowKit

namespace Cls
theorem snoc_ind {α : Type} {p : List α → Prop} (h0 : p []) (h1 : ∀ l x, p l → p (l ++ [x])) (l : List α) : p l := by
  have key : ∀ r : List α, p r.reverse := by
    intro r
    induction r with
    | nil => exact h0
    | cons x r ih => rw [List.reverse_cons]; exact h1 _ _ ih
  simpa using key l.reverse
/-- What agrees at both ends of all that is merged agrees on the classes. -/
theorem ker_le {α : Type} {F : Nat → α} {l : List (Nat × Nat)} (h : ∀ p ∈ l, F p.1 = F p.2) {x y : Nat} (e : mergeAll l x = mergeAll l y) : F x = F y := by
  have key : ∀ l : List (Nat × Nat), (∀ p ∈ l, F p.1 = F p.2) → ∀ x y, mergeAll l x = mergeAll l y → F x = F y := by
    intro l
    refine snoc_ind (p := fun l => (∀ p ∈ l, F p.1 = F p.2) → ∀ x y, mergeAll l x = mergeAll l y → F x = F y) ?_ ?_ l
    · intro _ x y e; exact congrArg F e
    · intro l p ih h x y e
      have hp := h p (List.mem_append.2 (Or.inr (List.mem_singleton.2 rfl)))
      have ih' := ih (fun q hq => h q (List.mem_append.2 (Or.inl hq)))
      rw [mergeAll_snoc] at e
      unfold Cls.merge at e
      by_cases e1 : mergeAll l x = mergeAll l p.1
      · by_cases e2 : mergeAll l y = mergeAll l p.1
        · exact ih' x y (e1.trans e2.symm)
        · rw [if_pos e1, if_neg e2] at e
          exact (ih' _ _ e1).trans (hp.trans (ih' _ _ e))
      · by_cases e2 : mergeAll l y = mergeAll l p.1
        · rw [if_neg e1, if_pos e2] at e
          exact (ih' _ _ e).trans (hp.symm.trans (ih' _ _ e2).symm)
        · rw [if_neg e1, if_neg e2] at e
          exact ih' _ _ e
  exact key l h x y e
/-- Both ends of what is merged have one label. -/
theorem eq_of_mem {l : List (Nat × Nat)} {a b : Nat} (h : (a, b) ∈ l) : mergeAll l a = mergeAll l b := by
  have keep : ∀ (m : List (Nat × Nat)) (c : Nat → Nat) (x y : Nat), c x = c y → m.foldl Cls.merge c x = m.foldl Cls.merge c y := by
    intro m
    induction m with
    | nil => intro c x y e; exact e
    | cons p m ih => intro c x y e; exact ih _ x y (by unfold Cls.merge; rw [e])
  have key : ∀ (m : List (Nat × Nat)) (c : Nat → Nat), (a, b) ∈ m → m.foldl Cls.merge c a = m.foldl Cls.merge c b := by
    intro m
    induction m with
    | nil => intro c h; cases h
    | cons p m ih =>
      intro c h
      rcases List.mem_cons.1 h with rfl | h
      · refine keep m _ a b ?_
        unfold Cls.merge
        rw [if_pos rfl]
        split <;> rfl
      · exact ih _ h
  exact key l id h
theorem eq_append {l m : List (Nat × Nat)} {a b : Nat} (h : mergeAll l a = mergeAll l b) : mergeAll (l ++ m) a = mergeAll (l ++ m) b :=
  ker_le (F := mergeAll (l ++ m)) (fun p hp => eq_of_mem (List.mem_append.2 (Or.inl hp))) h
/-- Labels that part a list alike are as many. -/
theorem found_ker {f g : Nat → Nat} {ms : List Nat} (h : ∀ i ∈ ms, ∀ j ∈ ms, f i = f j ↔ g i = g j) : (found f ms).length = (found g ms).length := by
  refine snoc_ind (p := fun ms => (∀ i ∈ ms, ∀ j ∈ ms, f i = f j ↔ g i = g j) → (found f ms).length = (found g ms).length) ?_ ?_ ms h
  · intro _; rfl
  · intro l x ih h
    have ih' := ih (fun i hi j hj => h i (List.mem_append.2 (Or.inl hi)) j (List.mem_append.2 (Or.inl hj)))
    rw [found_snoc, found_snoc]
    unfold foundStep
    have hx : f x ∈ found f l ↔ g x ∈ found g l := by
      rw [found_mem, found_mem]
      constructor
      · rintro ⟨m, hm, e⟩
        exact ⟨m, hm, (h m (List.mem_append.2 (Or.inl hm)) x (List.mem_append.2 (Or.inr (List.mem_singleton.2 rfl)))).1 e⟩
      · rintro ⟨m, hm, e⟩
        exact ⟨m, hm, (h m (List.mem_append.2 (Or.inl hm)) x (List.mem_append.2 (Or.inr (List.mem_singleton.2 rfl)))).2 e⟩
    by_cases e : f x ∈ found f l
    · rw [if_pos e, if_pos (hx.1 e)]; exact ih'
    · rw [if_neg e, if_neg (fun h => e (hx.2 h)), List.length_append, List.length_append, ih']; rfl
theorem found_map (c : Nat → Nat) (f : Nat → Nat) (ms : List Nat) : found c (ms.map f) = found (fun m => c (f m)) ms := by
  unfold found
  rw [List.foldl_map]; rfl
/-- The same labels met are as many. -/
theorem found_same {c d : Nat → Nat} {ms ns : List Nat} (h : ∀ x, (∃ m ∈ ms, c m = x) ↔ ∃ n ∈ ns, d n = x) : (found c ms).length = (found d ns).length :=
  List.Perm.length_eq ((List.perm_ext_iff_of_nodup (found_nodup c ms) (found_nodup d ns)).2 fun x => by rw [found_mem, found_mem]; exact h x)
theorem tally_range {c : Nat → Nat} {n : Nat} (h : Ok c n) : tally c (List.range n) = (found c (List.range n)).length :=
  tally_found List.nodup_range (fun m hm => List.mem_range.2 (h.lt m (List.mem_range.1 hm))) (fun m hm => h.idem m (List.mem_range.1 hm))

/-- Pairs (a, b) as often as S a b e holds below e. -/
def oneTo (S : Nat → Nat → Nat → Bool) (a b e : Nat) : List (Nat × Nat) := ((List.range e).filter (S a b)).map fun _ => (a, b)
def lineTo (S : Nat → Nat → Nat → Bool) (m a j : Nat) : List (Nat × Nat) := (List.range j).flatMap fun b => oneTo S a b m
def tri (S : Nat → Nat → Nat → Bool) (m i j e : Nat) : List (Nat × Nat) := ((List.range i).flatMap fun a => lineTo S m a a) ++ lineTo S m i j ++ oneTo S i j e
section
variable {S : Nat → Nat → Nat → Bool} {m i j e : Nat}
theorem tri_zero : tri S m 0 0 0 = [] := by simp [tri, lineTo, oneTo]
theorem tri_yes (h : S i j e = true) : tri S m i j (e + 1) = tri S m i j e ++ [(i, j)] := by
  unfold tri oneTo
  rw [List.range_succ, List.filter_append, List.map_append, ← List.append_assoc, List.filter_cons, if_pos h]; rfl
theorem tri_no (h : S i j e = false) : tri S m i j (e + 1) = tri S m i j e := by
  unfold tri oneTo
  rw [List.range_succ, List.filter_append, List.map_append, List.filter_cons, if_neg (by rw [h]; exact Bool.false_ne_true)]; simp
theorem tri_line : tri S m i j m = tri S m i (j + 1) 0 := by
  unfold tri lineTo
  rw [List.range_succ, List.flatMap_append]
  simp [oneTo]
theorem tri_next : tri S m i i 0 = tri S m (i + 1) 0 0 := by
  unfold tri
  rw [List.range_succ, List.flatMap_append]
  simp [oneTo, lineTo]
theorem tri_mem {n : Nat} {p : Nat × Nat} : p ∈ tri S m n 0 0 ↔ p.1 < n ∧ p.2 < p.1 ∧ ∃ e, e < m ∧ S p.1 p.2 e = true := by
  unfold tri lineTo oneTo
  simp only [List.range_zero, List.flatMap_nil, List.filter_nil, List.map_nil, List.append_nil, List.mem_flatMap, List.mem_range, List.mem_map, List.mem_filter]
  constructor
  · rintro ⟨a, ha, b, hb, e, ⟨he, hs⟩, rfl⟩
    exact ⟨ha, hb, e, he, hs⟩
  · rintro ⟨h1, h2, e, he, hs⟩
    exact ⟨p.1, h1, p.2, h2, e, ⟨he, hs⟩, rfl⟩
theorem tri_lt {n : Nat} : ∀ p ∈ tri S m n 0 0, p.1 < n ∧ p.2 < n := fun p hp => by have := tri_mem.1 hp; omega
end
end Cls
end Go.Proofs.YtpgdmbolckogcaaDoor
namespace Go.Proofs.YtpgdmbolckogcaaDoor
open Go.RowKit

namespace Glue
/-- A letter is a side of a polygon, counting inverses. -/
def has (r : List Int) (x : Nat) : Bool := r.any fun y => y.natAbs == x
theorem has_iff {r : List Int} {x : Nat} : has r x = true ↔ ∃ y ∈ r, y.natAbs = x := by simp [has]
def share (L : List (List Int)) (p q x : Nat) : Bool := has (L.getD p []) x && has (L.getD q []) x
/-- The parts, by polygons. -/
def ring (L : List (List Int)) : Nat → Nat := Cls.mergeAll (Cls.tri (share L) 9 L.length 0 0)
def parts (L : List (List Int)) : Nat := Cls.tally (ring L) (List.range L.length)
def numParts (L : List (List Int)) : Int := if IsG L then (parts L : Int) else -1
theorem ring_ok (L : List (List Int)) : Cls.Ok (ring L) L.length := Cls.Ok.all Cls.tri_lt
theorem getD_at {L : List (List Int)} {i : Nat} {r : List Int} (h : L[i]? = some r) : L.getD i [] = r := by rw [List.getD_eq_getElem?_getD, h]; rfl
theorem has_zero {L : List (List Int)} (h : ∀ p ∈ L, Word.IsW p) (p : Nat) : has (L.getD p []) 0 = false := by
  rw [Bool.eq_false_iff]
  intro he
  obtain ⟨y, hy, e⟩ := has_iff.1 he
  rcases Nat.lt_or_ge p L.length with hp | hp
  · rw [getD_at (List.getElem?_eq_getElem hp)] at hy
    have := ((h _ (List.getElem_mem hp)).1 y hy).1
    omega
  · rw [List.getD_eq_getElem?_getD, List.getElem?_eq_none hp] at hy
    cases hy
theorem has_lt {L : List (List Int)} (h : ∀ p ∈ L, Word.IsW p) {p x : Nat} (he : has (L.getD p []) x = true) : p < L.length ∧ x < 9 := by
  obtain ⟨y, hy, e⟩ := has_iff.1 he
  rcases Nat.lt_or_ge p L.length with hp | hp
  · rw [getD_at (List.getElem?_eq_getElem hp)] at hy
    obtain ⟨_, _, _⟩ := (h _ (List.getElem_mem hp)).1 y hy
    exact ⟨hp, by omega⟩
  · rw [List.getD_eq_getElem?_getD, List.getElem?_eq_none hp] at hy
    cases hy
/-- Polygons with a common letter are of one part. -/
theorem ring_share {L : List (List Int)} (h : ∀ p ∈ L, Word.IsW p) {i j x : Nat} (hi : has (L.getD i []) x = true) (hj : has (L.getD j []) x = true) : ring L i = ring L j := by
  have h1 := has_lt h hi
  have h2 := has_lt h hj
  have key : ∀ a b, b < a → has (L.getD a []) x = true → has (L.getD b []) x = true → a < L.length → ring L a = ring L b := fun a b hba ha hb hl =>
    Cls.eq_of_mem (Cls.tri_mem.2 ⟨hl, hba, x, h1.2, by unfold share; rw [ha, hb]; rfl⟩)
  rcases Nat.lt_trichotomy i j with hlt | rfl | hlt
  · exact (key j i hlt hj hi h2.1).symm
  · rfl
  · exact key i j hlt hi hj h1.1
/-- The program's way: each side with the first of its polygon. -/
def firstOf (r : List Int) (j : Nat) : Nat × Nat := ((r.getD j 0).natAbs, (r.getD 0 0).natAbs)
def letterCls (L : List (List Int)) : Nat → Nat := Cls.mergeAll (metAll firstOf L)
theorem firstOf_at {r : List Int} {j : Nat} {x y : Int} (hx : r[j]? = some x) (hy : r[0]? = some y) : firstOf r j = (x.natAbs, y.natAbs) := by
  unfold firstOf
  rw [List.getD_eq_getElem?_getD, hx, List.getD_eq_getElem?_getD, hy]; rfl
theorem firstOf_lt {L : List (List Int)} (h : ∀ p ∈ L, Word.IsW p) : ∀ p ∈ metAll firstOf L, p.1 < 9 ∧ p.2 < 9 := by
  intro p hp
  obtain ⟨r, hr, j, hj, rfl⟩ := met_mem hp
  have h0 : 0 < r.length := by omega
  rw [firstOf_at (List.getElem?_eq_getElem hj) (List.getElem?_eq_getElem h0)]
  obtain ⟨_, _, _⟩ := (h r hr).at hj
  obtain ⟨_, _, _⟩ := (h r hr).at h0
  exact ⟨by show (r[j]).natAbs < 9; omega, by show (r[0]).natAbs < 9; omega⟩
theorem met_in {β : Type} {f : List Int → Nat → β} {L : List (List Int)} {r : List Int} (hr : r ∈ L) {j : Nat} (hj : j < r.length) : f r j ∈ metAll f L := by
  unfold metAll
  rw [List.mem_flatMap]
  exact ⟨r, hr, List.mem_map.2 ⟨j, List.mem_range.2 hj, rfl⟩⟩
/-- The first letter of a polygon. -/
def lead (L : List (List Int)) (p : Nat) : Nat := ((L.getD p []).getD 0 0).natAbs
theorem has_lead {L : List (List Int)} (h : IsG L) {p : Nat} (hp : p < L.length) : has (L.getD p []) (lead L p) = true := by
  have e := List.getElem?_eq_getElem hp
  have hr := h.2.2.1 _ (List.getElem_mem hp)
  have h0 : 0 < L[p].length := List.length_pos_iff.2 hr.1
  unfold lead
  rw [getD_at e, List.getD_eq_getElem?_getD, List.getElem?_eq_getElem h0]
  exact has_iff.2 ⟨L[p][0], List.getElem_mem h0, rfl⟩
/-- A letter of a polygon is in the class of the polygon's first. -/
theorem cls_lead {L : List (List Int)} {p x : Nat} (hx : has (L.getD p []) x = true) (h : ∀ p ∈ L, Word.IsW p) : letterCls L x = letterCls L (lead L p) := by
  have hp := (has_lt h hx).1
  obtain ⟨y, hy, rfl⟩ := has_iff.1 hx
  have e := List.getElem?_eq_getElem hp
  rw [getD_at e] at hy
  obtain ⟨j, hj, rfl⟩ := List.mem_iff_getElem.1 hy
  have h0 : 0 < L[p].length := by omega
  unfold lead
  rw [getD_at e, List.getD_eq_getElem?_getD, List.getElem?_eq_getElem h0]
  refine Cls.eq_of_mem ?_
  have := met_in (f := firstOf) (List.getElem_mem hp) hj
  rw [firstOf_at (List.getElem?_eq_getElem hj) (List.getElem?_eq_getElem h0)] at this
  exact this
theorem parts_ker {L : List (List Int)} (h : IsG L) {p q : Nat} (hp : p < L.length) (hq : q < L.length) : ring L p = ring L q ↔ letterCls L (lead L p) = letterCls L (lead L q) := by
  constructor
  · intro e
    refine Cls.ker_le (F := fun p => letterCls L (lead L p)) (fun ab hab => ?_) e
    obtain ⟨h1, h2, x, _, hs⟩ := Cls.tri_mem.1 hab
    unfold share at hs
    rw [Bool.and_eq_true] at hs
    show letterCls L (lead L ab.1) = letterCls L (lead L ab.2)
    rw [← cls_lead hs.1 h.w, ← cls_lead hs.2 h.w]
  · intro e
    classical
    let F : Nat → Nat := fun x => if hx : ∃ i, has (L.getD i []) x = true then ring L (Classical.choose hx) else 0
    have hF : ∀ i x, has (L.getD i []) x = true → F x = ring L i := fun i x hi => by
      have hx : ∃ i, has (L.getD i []) x = true := ⟨i, hi⟩
      show (if hx : ∃ i, has (L.getD i []) x = true then ring L (Classical.choose hx) else 0) = _
      rw [dif_pos hx]
      exact ring_share h.w (Classical.choose_spec hx) hi
    have := Cls.ker_le (F := F) (l := metAll firstOf L) (fun ab hab => by
      obtain ⟨r, hr, j, hj, rfl⟩ := met_mem hab
      obtain ⟨i, hi, rfl⟩ := List.mem_iff_getElem.1 hr
      have h0 : 0 < L[i].length := by omega
      rw [firstOf_at (List.getElem?_eq_getElem hj) (List.getElem?_eq_getElem h0)]
      have e := List.getElem?_eq_getElem hi
      rw [hF i _ (by rw [getD_at e]; exact has_iff.2 ⟨_, List.getElem_mem hj, rfl⟩), hF i _ (by rw [getD_at e]; exact has_iff.2 ⟨_, List.getElem_mem h0, rfl⟩)]) e
    rw [hF p _ (has_lead h hp), hF q _ (has_lead h hq)] at this
    exact this
theorem letter_has {L : List (List Int)} {x : Nat} (hx : x ∈ lettersN L 1 2) : ∃ p, p < L.length ∧ has (L.getD p []) x = true := by
  obtain ⟨h1, h2⟩ := List.mem_filter.1 hx
  have h9 := List.mem_range.1 h1
  simp only [decide_eq_true_eq] at h2
  have hc := count_get L.flatten x h9
  unfold uses at h2
  have hpos : 0 < (L.flatten.filter fun y => y.natAbs == x).length := by omega
  obtain ⟨y, hy⟩ := List.exists_mem_of_length_pos hpos
  obtain ⟨hy1, hy2⟩ := List.mem_filter.1 hy
  obtain ⟨r, hr, hyr⟩ := List.mem_flatten.1 hy1
  obtain ⟨i, hi, rfl⟩ := List.mem_iff_getElem.1 hr
  exact ⟨i, hi, by rw [getD_at (List.getElem?_eq_getElem hi)]; exact has_iff.2 ⟨y, hyr, by simpa using hy2⟩⟩
theorem parts_found {L : List (List Int)} (h : IsG L) : (Cls.found (letterCls L) (lettersN L 1 2)).length = parts L := by
  unfold parts
  rw [Cls.tally_range (ring_ok L)]
  refine Eq.trans ?_ (Cls.found_ker (f := fun p => letterCls L (lead L p)) (fun i hi j hj => (parts_ker h (List.mem_range.1 hi) (List.mem_range.1 hj)).symm))
  refine Cls.found_same fun v => ⟨?_, ?_⟩
  · rintro ⟨x, hx, rfl⟩
    obtain ⟨p, hp, hh⟩ := letter_has hx
    exact ⟨p, List.mem_range.2 hp, (cls_lead hh h.w).symm⟩
  · rintro ⟨p, hp, rfl⟩
    have hp' := List.mem_range.1 hp
    obtain ⟨y, hy, e⟩ := has_iff.1 (has_lead h hp')
    rw [getD_at (List.getElem?_eq_getElem hp')] at hy
    exact ⟨lead L p, e ▸ occurs h (List.getElem_mem hp') hy, rfl⟩
theorem parts_le (L : List (List Int)) : parts L ≤ L.length := by
  have := Cls.tally_le (ring L) (List.range L.length)
  rwa [List.length_range] at this
end Glue

set_option maxRecDepth 10000 in
set_option maxHeartbeats 1000000 in
theorem spec_l3Has (a : Option Addr) (c : Nat) (r : List Int) (x : Nat) (z : Int) (hz : z = ((x : Nat) : Int)) (w : World) (ha : RowAt w a (intCells r)) (hw : Word.IsW r) (hx : x < 100) :
    Calls Tryd.prog 76 #[.slice a r.length c, .int .i64 z] w fun e w' => e = .returned (.bool (Glue.has r x)) ∧ w' = w := by
  subst hz
  have Ha := Lib.hid ha; have Hw := Lib.hid hw
  have hl24 := hw.2
  generalize hv : Glue.has r x = v
  have Hv := Lib.hid hv
  clear ha hw hv
  go_enter Tryd.func76, Tryd.ntmps76
  go_wp2
  go_loopw [4, 5] (fun rv iv wr => rv = .bool false ∧ ∃ i : Nat, i ≤ r.length ∧ iv = .int .i64 i ∧ Hid (∀ j (hj : j < r.length), j < i → (r[j]).natAbs ≠ x) ∧ wr = w) (fun _ iv _ => r.length - (intOf iv).toNat)
  case atStart => exact ⟨rfl, 0, by omega, rfl, Lib.hid (fun _ _ h => by omega), rfl⟩
  case round =>
    obtain ⟨rfl, i, hi, rfl, hno, rfl⟩ := hrel
    by_cases hlt : i < r.length
    · obtain ⟨b, o, rfl, hbw, hcell⟩ := intCells_at Ha.out hlt
      obtain ⟨hy0, hy1, hy2⟩ := Hw.out.at hlt
      have habs := spec_l3Abs r[i] wr (by omega) (by omega)
      have hin : r[i].natAbs = x → v = true := fun h => by rw [← Hv.out]; exact Glue.has_iff.2 ⟨_, List.getElem_mem hlt, h⟩
      have hnext : r[i].natAbs ≠ x → ∀ j (hj : j < r.length), j < i + 1 → (r[j]).natAbs ≠ x := fun h j hj hji => by
        rcases Nat.lt_or_ge j i with h2 | h2
        · exact hno.out j hj h2
        · obtain rfl : j = i := by omega
          exact h
      generalize r[i] = y at *
      generalize y.natAbs = ya at *
      have Habs := Lib.hid habs; have Hin := Lib.hid hin; have Hnext := Lib.hid hnext
      clear habs hin hnext hno hy0 hy1 hy2
      by_cases he : ya = x
      · have heq : ((ya : Int) == (x : Int)) = true := by rw [he]; simp
        have hvt := Lib.hid (Hin.out he)
        clear he
        go_wp2_with fail
        refine Habs.out.mono ?_
        rintro e w1 ⟨rfl, rfl⟩
        go_wp2
        go_ret
        exact ⟨by rw [hvt.out]; rfl, rfl⟩
      · have heq : ((ya : Int) == (x : Int)) = false := beq_eq_false_iff_ne.2 (by omega)
        have hnx := Lib.hid (Hnext.out he)
        clear he
        go_wp2_with fail
        refine Habs.out.mono ?_
        rintro e w1 ⟨rfl, rfl⟩
        go_wp2
        go_roundw
        case rel => exact ⟨rfl, i + 1, by omega, by go_num, hnx, trivial⟩
        case measure => simp [intOf]; omega
    · obtain rfl : i = r.length := by omega
      have hvf : v = false := by
        rw [← Hv.out, Bool.eq_false_iff]
        intro he
        obtain ⟨y, hy, e⟩ := Glue.has_iff.1 he
        obtain ⟨j, hj, rfl⟩ := List.mem_iff_getElem.1 hy
        exact hno.out j hj hj e
      have Hf := Lib.hid hvf
      clear hvf
      go_wp2
      go_ret
      exact ⟨by rw [Hf.out]; rfl, rfl⟩

set_option maxRecDepth 10000 in
set_option maxHeartbeats 2000000 in
theorem impl_PartsOf (a : Option Addr) (c : Nat) (L : List (List Int)) (w : World) (ha : GridAt w a L) (hl : tot L ≤ 1048576) :
    Calls Tryd.prog 32 #[.slice a L.length c] w fun e w' => e = .returned (.int .i64 (Glue.numParts L)) ∧ Below w.heap.size w w' := by
  have hG := impl_IsGluing a c L w ha hl
  generalize hv : Glue.numParts L = V
  unfold Glue.numParts at hv
  have Ha := Lib.hid ha
  by_cases hg : Glue.IsG L
  · rw [if_pos hg, ← Glue.parts_found hg] at hv
    rw [decide_eq_true hg] at hG
    have hE := fun W (h : GridAt W a L) => impl_EdgeLetters a c L W h hl
    rw [Glue.edgeLetters_N hg] at hE
    have hlt := fun k => Glue.lettersN_lt (L := L) (lo := 1) (hi := 2) (k := k)
    have hlen := Glue.lettersN_len L 1 2
    have hl4 := hg.2.1
    have HG := Lib.hid hG; have HE := Lib.hid hE; have Hlt := Lib.hid hlt; have Hw := Lib.hid hg.w; have Hv := Lib.hid hv
    clear hG hE hg ha hlt hv
    generalize Glue.lettersN L 1 2 = K at *
    generalize hN : w.heap.size = N at *
    have HN := Lib.hid hN
    go_enter Tryd.func32, Tryd.ntmps32
    go_wp2_with fail
    refine HG.out.mono ?_
    rintro e w1 ⟨rfl, hb1⟩
    have hnew := impl_newClasses 9 w1 (by omega)
    have hN1 : N ≤ w1.heap.size := by have := hb1.size; rw [HN.out] at this; exact this
    generalize hM : w1.heap.size = M at *
    have HM := Lib.hid hM; have Hnew := Lib.hid hnew
    clear hnew
    go_wp2_with fail
    refine Hnew.out.mono ?_
    rintro e w2 ⟨rfl, hk, hb2⟩
    have Hk := Lib.hid hk; have Hb := Lib.hid (hb1.trans (hb2.mono hN1)); have HN1 := Lib.hid hN1
    clear hk hb1 hb2 hN1
    go_wp2
    go_loopw [5, 7, 14] (fun _ _ iv wr => ∃ i : Nat, i ≤ L.length ∧ iv = .int .i64 i ∧ Below N w wr ∧ Hid (Lab wr M (Cls.mergeAll (met Glue.firstOf L i 0)) 9)) (fun _ _ iv _ => L.length - (intOf iv).toNat)
    case atStart => exact ⟨0, by omega, rfl, Hb.out, Lib.hid (by rw [met_zero]; exact Hk.out)⟩
    case round =>
      obtain ⟨i, hi, rfl, hb, hk⟩ := hrel
      by_cases hlti : i < L.length
      · obtain ⟨r, hr⟩ := get_some hlti
        have Hr := Lib.hid hr
        have hwi := Hw.out r (get_mem hr)
        have hll : r.length ≤ 24 := hwi.2
        have Hwi := Lib.hid hwi
        clear hr hwi
        obtain ⟨b, o, ai, ci, rfl, hbw, hcell0, hrow⟩ := Ha.out.get Hr.out
        have hcell : wr.cell? ⟨b, o + i, none⟩ = some (.slice ai r.length ci) := by rw [hb.cell (by rw [← HN.out]; exact hbw)]; exact hcell0
        have Hrow := Lib.hid hrow
        have Hb2 := Lib.hid hb
        clear hcell0 hbw hrow hb
        go_wp2
        go_loopw [7, 20] (fun _ jv w2 => ∃ j : Nat, j ≤ r.length ∧ jv = .int .i64 j ∧ Hid (Below N w w2) ∧ Hid (Lab w2 M (Cls.mergeAll (met Glue.firstOf L i j)) 9)) (fun _ jv _ => r.length - (intOf jv).toNat)
        case atStart => exact ⟨0, by omega, rfl, Hb2, hk⟩
        case round =>
          clear hk
          obtain ⟨j, hj, rfl, hb, hk⟩ := hrel
          by_cases hjt : j < r.length
          · obtain ⟨x, hx⟩ := get_some hjt
            obtain ⟨y, hy⟩ := get_some (show 0 < r.length by omega)
            have hrw := Hrow.out.below (by rw [HN.out]; exact hb.out)
            obtain ⟨b', o', rfl, hbw', hcell'⟩ := intCells_get? hrw hx
            obtain ⟨b'', o'', e2, _, hcell''⟩ := intCells_get? hrw hy
            cases e2
            rw [Nat.add_zero] at hcell''
            have hstep := met_step (f := Glue.firstOf) j Hr.out
            rw [Glue.firstOf_at hx hy] at hstep
            obtain ⟨hx0, hx1, hx2⟩ := Hwi.out.1 x (get_mem hx)
            obtain ⟨hy0, hy1, hy2⟩ := Hwi.out.1 y (get_mem hy)
            have hax := fun W => impl_edgeOf x W (by omega) (by omega)
            have hay := fun W => impl_edgeOf y W (by omega) (by omega)
            have hmr := fun za zb h1 h2 W hg => impl_mergeClasses M 9 9 (Cls.mergeAll (met Glue.firstOf L i j)) x.natAbs y.natAbs za zb h1 h2 W hg (by omega) (by omega) (by omega)
            rw [← Cls.mergeAll_snoc, ← hstep] at hmr
            generalize x.natAbs = xa at *
            generalize y.natAbs = ya at *
            have hrl : (0 : Int) < (r.length : Int) := by omega
            have hrn : 0 < r.length := by omega
            have Hax := Lib.hid hax; have Hay := Lib.hid hay; have Hmr := Lib.hid hmr; have Hkl := Lib.hid hk.out
            clear hstep hax hay hmr hrw hx hy hbw' hx0 hx1 hx2 hy0 hy1 hy2
            go_wp2
            go_still_tail 7, (by kernel_rfl)
            still_call (Hax.out _)
            repeat still_step
            still_call (Hay.out _)
            repeat still_step
            refine wpStill_nil ?_
            change wpList _ _ _ _ _ wr.drew
            have Hkd : Hid (Lab wr.drew M (Cls.mergeAll (met Glue.firstOf L i j)) 9) := Lib.hid (Hkl.out.drewN 1)
            have Hbd : Hid (Below N w wr.drew) := Lib.hid (below_drewN hb.out 1)
            generalize wr.drew = W0 at *
            clear hcell' hcell''
            go_wp2_with fail
            refine (Hmr.out _ _ rfl rfl _ Hkd.out).mono ?_
            rintro e w2 ⟨rfl, hk2, hg2⟩
            have Hk2 := Lib.hid hk2; have Hg2 := Lib.hid hg2
            clear hk2 hg2
            go_wp2
            go_roundw
            case rel => exact ⟨j + 1, by omega, by go_num, Lib.hid (Hbd.out.grown Hg2.out (by have := Hbd.out.size; rw [HN.out] at this; exact this) (fun k hk => by cases hk; exact HN1.out)), Hk2⟩
            case measure => simp [intOf]; omega
          · obtain rfl : j = r.length := by omega
            rw [met_next Hr.out] at hk
            go_wp2
            go_roundw
            case rel => exact ⟨i + 1, by omega, by go_num, hb.out, hk⟩
            case measure => simp [intOf]; omega
      · obtain rfl : i = L.length := by omega
        rw [met_end] at hk
        have Hb3 := Lib.hid hb; have Hlab := Lib.hid (show Lab wr M (Glue.letterCls L) 9 from hk.out)
        clear hb hk
        generalize Glue.letterCls L = lc at *
        go_wp2_with fail
        refine (HE.out wr (Ha.out.below (by rw [HN.out]; exact Hb3.out))).mono ?_
        rintro e w4 ⟨ra, rc, rfl, h1, h2, h3, h4⟩
        rw [intsOf_len]
        have hcc := impl_countClasses (some ⟨M, 0, none⟩) ra 9 rc 9 lc K w4 (Hlab.out.row.below h4) h3.row Hlt.out (by omega) (by omega)
        have Hcc := Lib.hid hcc; have H4 := Lib.hid h4
        clear hcc h1 h2 h3 h4
        go_wp2_with fail
        refine Hcc.out.mono ?_
        rintro e w5 ⟨rfl, hb5⟩
        rw [Hv.out]
        go_wp2
        go_ret
        have hb45 := H4.out.trans (hb5.mono H4.out.size)
        exact ⟨rfl, Hb3.out.trans (hb45.mono (by have := Hb3.out.size; rw [HN.out] at this; exact this))⟩
  · rw [if_neg hg] at hv
    rw [decide_eq_false hg] at hG
    have HG := Lib.hid hG; have Hv := Lib.hid hv
    clear hG hg ha hv
    go_enter Tryd.func32, Tryd.ntmps32
    go_wp2_with fail
    refine HG.out.mono ?_
    rintro e w1 ⟨rfl, hb1⟩
    go_wp2
    go_ret
    exact ⟨by rw [← Hv.out]; rfl, hb1⟩

set_option maxRecDepth 10000 in
set_option maxHeartbeats 2000000 in
theorem spec_PartsOf (a : Option Addr) (c : Nat) (L : List (List Int)) (w : World) (ha : GridAt w a L) (hl : tot L ≤ 1048576) :
    Calls Tryd.prog 33 #[.slice a L.length c] w fun e w' => e = .returned (.int .i64 (Glue.numParts L)) ∧ Below w.heap.size w w' := by
  have hG := spec_IsGluing a c L w ha hl
  generalize hv : Glue.numParts L = V
  unfold Glue.numParts at hv
  have Ha := Lib.hid ha
  by_cases hg : Glue.IsG L
  · rw [if_pos hg] at hv
    unfold Glue.parts at hv
    rw [decide_eq_true hg] at hG
    have hl4 := hg.2.1
    have hl1 := hg.1
    obtain ⟨i0, hi0, hz0, hz1, hz2⟩ := info_int_parts
    have Hi0 := Lib.hid hi0; have Hz0 := Lib.hid hz0; have Hz1 := Lib.hid hz1; have Hz2 := Lib.hid hz2
    have HG := Lib.hid hG; have Hw := Lib.hid hg.w; have Hv := Lib.hid hv
    clear hG hg ha hv hi0 hz0 hz1 hz2
    generalize hN : w.heap.size = N at *
    have HN := Lib.hid hN
    go_enter Tryd.func33, Tryd.ntmps33
    go_wp2_with fail
    refine HG.out.mono ?_
    rintro e w1 ⟨rfl, hb1⟩
    have hN1 : N ≤ w1.heap.size := by have := hb1.size; rw [HN.out] at this; exact this
    have Hb1 := Lib.hid (hb1.alloc hN1 (.cells #[] 3)); have Hmd := Lib.hid (own_mono (own_made (w := w1) rfl) hN1)
    clear hb1 hN1
    go_wp2
    go_loopw [3, 4] (fun ov iv wr => ∃ i : Nat, i ≤ L.length ∧ iv = .int .i64 i ∧ Below N w wr ∧ wr.ownsRow N 3 1 ov i (intCells (intsOf (List.range i)))) (fun _ iv _ => L.length - (intOf iv).toNat)
    case atStart => exact ⟨0, by omega, rfl, Hb1.out, Hmd.out⟩
    case round =>
      obtain ⟨i, hi, rfl, hb, hown⟩ := hrel
      by_cases hlti : i < L.length
      · have hNle : N ≤ wr.heap.size := by have := hb.size; rw [HN.out] at this; exact this
        have hst : List.range (i + 1) = List.range i ++ [i] := List.range_succ
        have Hst := Lib.hid hst
        obtain ⟨av, cv, rfl⟩ := own_len hown
        have hm1 : i + 1 ≤ maxLen := by unfold maxLen; omega
        have hm2 : (i + 1) * 8 ≤ 140737488355328 := by omega
        generalize List.range i = X at *
        generalize hY : List.range (i + 1) = Y at *
        have HY := Lib.hid hY
        clear hY hst
        go_wp2_with (at_builtin; refine append_one rfl (.tmp 20) (.tmp 22) 36 rfl N 3 i0 _ 8 Tryd.underlying36 Hi0.out Hz0.out Hz1.out Hz2.out (by rfl) _ _ _ rfl hown (by rfl) _ rfl hm1 hm2 hNle ?_; intro v1 w1 hown1 hg1 _)
        go_roundw
        case rel =>
          refine ⟨i + 1, by omega, by go_num, Below.grown (hb.alloc hNle _) hg1 (by simp; omega) (fun k hk => (hown.lt k hk).1), ?_⟩
          rw [HY.out, Hst.out, intsOf_snoc, ← intCells_snoc]; exact hown1
        case measure => simp [intOf]; omega
      · obtain rfl : i = L.length := by omega
        obtain ⟨g, cap, rfl, hgN, hcap, hlab⟩ := own_lab hown (by simp) (by omega)
        have hlab0 : Lab wr g id L.length := hlab.congr (fun k hk => by simp [List.getD_eq_getElem?_getD, hk])
        have Hlab := Lib.hid hlab0; have HgN := Lib.hid hgN; have Hb := Lib.hid hb
        clear hlab hlab0 hown hgN hb
        go_wp2
        go_loopw [5, 6, 7] (fun iv _ _ wr => ∃ i : Nat, i ≤ L.length ∧ iv = .int .i64 i ∧ Hid (Below N w wr) ∧ Hid (∃ u d, Lab wr g u L.length ∧ Cls.Up u (Cls.mergeAll (Cls.tri (Glue.share L) 9 i 0 0)) d L.length)) (fun iv _ _ _ => L.length - (intOf iv).toNat)
        case atStart => exact ⟨0, by omega, rfl, Hb, Lib.hid ⟨id, _, Hlab.out, by rw [Cls.tri_zero]; exact Cls.Up.start _⟩⟩
        case round =>
          clear Hb Hlab
          obtain ⟨i, hi, rfl, hb, hk⟩ := hrel
          by_cases hlti : i < L.length
          · go_wp2
            go_loopw [6, 7] (fun jv _ wr => ∃ j : Nat, j ≤ i ∧ jv = .int .i64 j ∧ Hid (Below N w wr) ∧ Hid (∃ u d, Lab wr g u L.length ∧ Cls.Up u (Cls.mergeAll (Cls.tri (Glue.share L) 9 i j 0)) d L.length)) (fun jv _ _ => i - (intOf jv).toNat)
            case atStart => exact ⟨0, by omega, rfl, hb, hk⟩
            case round =>
              clear hb hk
              obtain ⟨j, hj, rfl, hb, hk⟩ := hrel
              by_cases hltj : j < i
              · have hk1 : Hid (∃ u d, Lab wr g u L.length ∧ Cls.Up u (Cls.mergeAll (Cls.tri (Glue.share L) 9 i j 1)) d L.length) := by
                  rw [Cls.tri_no (by unfold Glue.share; rw [Glue.has_zero Hw.out]; rfl)]; exact hk
                clear hk
                go_wp2
                go_loopw [7] (fun xv wr => ∃ x : Nat, 1 ≤ x ∧ x ≤ 9 ∧ xv = .int .i64 x ∧ Hid (Below N w wr) ∧ Hid (∃ u d, Lab wr g u L.length ∧ Cls.Up u (Cls.mergeAll (Cls.tri (Glue.share L) 9 i j x)) d L.length)) (fun xv _ => 9 - (intOf xv).toNat)
                case atStart => exact ⟨1, by omega, by omega, rfl, hb, hk1⟩
                case round =>
                  clear hb hk1
                  obtain ⟨x, hx1, hx9, rfl, hb, hk⟩ := hrel
                  by_cases hltx : x ≤ 8
                  · obtain ⟨p, hp⟩ := get_some hlti
                    obtain ⟨q, hq⟩ := get_some (show j < L.length by omega)
                    have hgr := Ha.out.below (by rw [HN.out]; exact hb.out)
                    obtain ⟨b, o, ai, ci, rfl, hbw, hcell, hrow⟩ := hgr.get hp
                    obtain ⟨b', o', aj, cj, e2, hbw', hcell', hrow'⟩ := hgr.get hq
                    cases e2
                    have hhp := spec_l3Has ai ci p x (x : Int) rfl wr hrow (Hw.out p (get_mem hp)) (by omega)
                    have hhq := spec_l3Has aj cj q x (x : Int) rfl wr hrow' (Hw.out q (get_mem hq)) (by omega)
                    have hsh : Glue.share L i j x = (Glue.has p x && Glue.has q x) := by unfold Glue.share; rw [Glue.getD_at hp, Glue.getD_at hq]
                    have hyes := fun h => Cls.tri_yes (S := Glue.share L) (m := 9) (i := i) (j := j) (e := x) h
                    have hno := fun h => Cls.tri_no (S := Glue.share L) (m := 9) (i := i) (j := j) (e := x) h
                    rw [hsh] at hyes hno
                    have hxc : (x : Int) ≤ 8 := by omega
                    generalize Glue.has p x = bp at *
                    generalize Glue.has q x = bq at *
                    have Hyes := Lib.hid hyes; have Hno := Lib.hid hno; have Hhp := Lib.hid hhp; have Hhq := Lib.hid hhq
                    clear hyes hno hsh hp hq hgr hrow hrow' hhp hhq
                    by_cases hbp : bp = true
                    · subst hbp
                      by_cases hbq : bq = true
                      · subst hbq
                        obtain ⟨u, d, hlab, hup⟩ := hk.out
                        have hlk := hup.link (p := (i, j)) hlti (by show j < L.length; omega)
                        rw [← Cls.mergeAll_snoc, ← Hyes.out rfl] at hlk
                        have hfx := fun W h => spec_l3Find (some ⟨g, 0, none⟩) cap L.length u _ d i (i : Int) rfl W h hup hlti (by omega)
                        have hfy := fun W h => spec_l3Find (some ⟨g, 0, none⟩) cap L.length u _ d j (j : Int) rfl W h hup (by omega) (by omega)
                        have hca := hup.ok.lt i hlti
                        have hput := fun b => hlab.put (b := b) hca
                        have hdst := hlab.cell hca
                        have hfz := hlab.frozen (Cls.mergeAll (Cls.tri (Glue.share L) 9 i j x) i)
                        generalize Cls.mergeAll (Cls.tri (Glue.share L) 9 i j x) i = ra at *
                        generalize Cls.mergeAll (Cls.tri (Glue.share L) 9 i j x) j = rb at *
                        have Hfx := Lib.hid hfx; have Hfy := Lib.hid hfy; have Hlk := Lib.hid hlk; have Hrow := Lib.hid hlab.row; have Hput := Lib.hid (hput rb)
                        have hc0 : (0 : Int) ≤ (ra : Int) := by omega
                        have hc1 : (ra : Int) < (L.length : Int) := by omega
                        clear hfx hfy hlk hup hlab hput
                        go_wp2_with fail
                        refine Hhp.out.mono ?_
                        rintro e w2 ⟨rfl, rfl⟩
                        go_wp2_with fail
                        refine Hhq.out.mono ?_
                        rintro e w2 ⟨rfl, rfl⟩
                        go_wp2_with fail
                        refine (Hfx.out _ Hrow.out).mono ?_
                        rintro e w2 ⟨rfl, rfl⟩
                        go_wp2_with fail
                        refine (Hfy.out _ Hrow.out).mono ?_
                        rintro e w2 ⟨rfl, rfl⟩
                        go_wp2
                        go_roundw
                        case rel => exact ⟨x + 1, by omega, by omega, by go_num, Lib.hid (hb.out.setCell HgN.out _), Lib.hid ⟨_, _, Hput.out, Hlk.out⟩⟩
                        case measure => simp [intOf]; omega
                      · obtain rfl : bq = false := by simpa using hbq
                        have hst := Hno.out rfl
                        have Hst := Lib.hid hst; clear hst
                        go_wp2_with fail
                        refine Hhp.out.mono ?_
                        rintro e w2 ⟨rfl, rfl⟩
                        go_wp2_with fail
                        refine Hhq.out.mono ?_
                        rintro e w2 ⟨rfl, rfl⟩
                        go_wp2
                        go_roundw
                        case rel => exact ⟨x + 1, by omega, by omega, by go_num, hb, by rw [Hst.out]; exact hk⟩
                        case measure => simp [intOf]; omega
                    · obtain rfl : bp = false := by simpa using hbp
                      have hst := Hno.out rfl
                      have Hst := Lib.hid hst; clear hst
                      go_wp2_with fail
                      refine Hhp.out.mono ?_
                      rintro e w2 ⟨rfl, rfl⟩
                      go_wp2
                      go_roundw
                      case rel => exact ⟨x + 1, by omega, by omega, by go_num, hb, by rw [Hst.out]; exact hk⟩
                      case measure => simp [intOf]; omega
                  · obtain rfl : x = 9 := by omega
                    rw [Cls.tri_line] at hk
                    go_wp2
                    go_roundw
                    case rel => exact ⟨j + 1, by omega, by go_num, hb, hk⟩
                    case measure => simp [intOf]; omega
              · obtain rfl : j = i := by omega
                rw [Cls.tri_next] at hk
                go_wp2
                go_roundw
                case rel => exact ⟨j + 1, by omega, by go_num, hb, hk⟩
                case measure => simp [intOf]; omega
          · obtain rfl : i = L.length := by omega
            obtain ⟨u, d, hlab, hup⟩ := hk.out
            have Hup := Lib.hid (show Cls.Up u (Glue.ring L) d L.length from hup); have Hlab := Lib.hid hlab; have Hb := hb
            clear hup hlab hk hb
            generalize Glue.ring L = rg at *
            go_wp2
            go_loopw [8, 9] (fun sv kv w2 => ∃ k : Nat, k ≤ L.length ∧ kv = .int .i64 k ∧ sv = .int .i64 ((Cls.tally rg (List.range k) : Nat) : Int) ∧ w2 = wr) (fun _ kv _ => L.length - (intOf kv).toNat)
            case atStart => exact ⟨0, by omega, rfl, rfl, rfl⟩
            case round =>
              obtain ⟨k, hk, rfl, rfl, rfl⟩ := hrel
              by_cases hltk : k < L.length
              · have hcell := Hlab.out.cell hltk
                have hroot := Hup.out.root k hltk
                have hst : Cls.tally rg (List.range (k + 1)) = Cls.tally rg (List.range k) + (if rg k = k then 1 else 0) := by rw [List.range_succ, Cls.tally_snoc]
                have htl := Cls.tally_le rg (List.range k)
                rw [List.length_range] at htl
                generalize u k = uk at *
                obtain ⟨b1, hb1⟩ : ∃ b1, ((uk : Int) == (k : Int)) = b1 := ⟨_, rfl⟩
                have ht1 : (((if rg k = k then 1 else 0) : Nat) : Int) = if b1 then 1 else 0 := by
                  subst hb1
                  by_cases h : uk = k
                  · rw [if_pos (hroot.1 h), if_pos (by simp; omega)]; rfl
                  · rw [if_neg (fun hh => h (hroot.2 hh)), if_neg (by simp; omega)]; rfl
                have hn1 : (if rg k = k then 1 else 0 : Nat) ≤ 1 := by split <;> omega
                generalize (if rg k = k then 1 else 0 : Nat) = n1 at *
                generalize Cls.tally rg (List.range k) = S at *
                generalize hS' : Cls.tally rg (List.range (k + 1)) = S' at *
                have hbit := fun W => spec_l1Bit b1 W
                rw [← ht1] at hbit
                have Hbit := Lib.hid hbit; have HS' := Lib.hid hS'; have Hst := Lib.hid hst
                clear ht1 hbit hroot hst hS'
                go_wp2_with fail
                refine (Hbit.out _).mono ?_
                rintro e w2 ⟨rfl, rfl⟩
                go_wp2
                go_roundw
                case rel => exact ⟨k + 1, by omega, by go_num, by rw [HS'.out, Hst.out]; go_num, trivial⟩
                case measure => simp [intOf]; omega
              · obtain rfl : k = L.length := by omega
                rw [Hv.out]
                go_wp2
                go_ret
                exact ⟨rfl, Hb.out⟩
  · rw [if_neg hg] at hv
    rw [decide_eq_false hg] at hG
    have HG := Lib.hid hG; have Hv := Lib.hid hv
    clear hG hg ha hv
    go_enter Tryd.func33, Tryd.ntmps33
    go_wp2_with fail
    refine HG.out.mono ?_
    rintro e w1 ⟨rfl, hb1⟩
    go_wp2
    go_ret
    exact ⟨by rw [← Hv.out]; rfl, hb1⟩
end Go.Proofs.YtpgdmbolckogcaaDoor
namespace Go.Proofs.YtpgdmbolckogcaaDoor
open Go.RowKit

namespace Glue
def free (L : List (List Int)) (i : Nat) : Nat := (lettersN L 1 1).getD i 0
/-- Two free letters have a class of corners in common: by four ways of taking ends. -/
def touch (L : List (List Int)) (i j e : Nat) : Bool := decide (cor L (2 * free L i + e % 2) = cor L (2 * free L j + e / 2))
/-- The circles, by free letters. -/
def circ (L : List (List Int)) : Nat → Nat := Cls.mergeAll (Cls.tri (touch L) 4 (lettersN L 1 1).length 0 0)
def borders (L : List (List Int)) : Nat := Cls.tally (circ L) (List.range (lettersN L 1 1).length)
def numBorders (L : List (List Int)) : Int := if IsG L then (borders L : Int) else -1
/-- The program's way: the ends of free letters become one. -/
def spans (ks : List Nat) : List (Nat × Nat) := ks.map fun k => (2 * k, 2 * k + 1)
def sewn (L : List (List Int)) : Nat → Nat := Cls.mergeAll (corners L ++ spans (lettersN L 1 1))
def begins (ks : List Nat) : List Nat := ks.map fun k => 2 * k
theorem spans_take {ks : List Nat} {i k : Nat} (h : ks[i]? = some k) : spans (ks.take (i + 1)) = spans (ks.take i) ++ [(2 * k, 2 * k + 1)] := by
  obtain ⟨h1, rfl⟩ := List.getElem?_eq_some_iff.1 h
  unfold spans
  rw [List.take_succ_eq_append_getElem h1, List.map_append]; rfl
theorem begins_take {ks : List Nat} {i k : Nat} (h : ks[i]? = some k) : begins (ks.take (i + 1)) = begins (ks.take i) ++ [2 * k] := by
  obtain ⟨h1, rfl⟩ := List.getElem?_eq_some_iff.1 h
  unfold begins
  rw [List.take_succ_eq_append_getElem h1, List.map_append]; rfl
theorem begins_len (ks : List Nat) : (begins ks).length = ks.length := by simp [begins]
theorem free_at {L : List (List Int)} {i k : Nat} (h : (lettersN L 1 1)[i]? = some k) : free L i = k := by unfold free; rw [List.getD_eq_getElem?_getD, h]; rfl
theorem circ_ok (L : List (List Int)) : Cls.Ok (circ L) (lettersN L 1 1).length := Cls.Ok.all Cls.tri_lt
theorem sewn_span {L : List (List Int)} {i b : Nat} (hi : i < (lettersN L 1 1).length) (hb : b < 2) : sewn L (2 * free L i + b) = sewn L (2 * free L i) := by
  have hm : (2 * free L i, 2 * free L i + 1) ∈ corners L ++ spans (lettersN L 1 1) := by
    refine List.mem_append.2 (Or.inr ?_)
    unfold spans
    refine List.mem_map.2 ⟨(lettersN L 1 1)[i], List.getElem_mem hi, ?_⟩
    rw [free_at (List.getElem?_eq_getElem hi)]
  rcases Nat.lt_or_ge b 1 with h | h
  · obtain rfl : b = 0 := by omega
    rfl
  · obtain rfl : b = 1 := by omega
    exact (Cls.eq_of_mem hm).symm
theorem circ_touch {L : List (List Int)} {i j b b' : Nat} (hi : i < (lettersN L 1 1).length) (hj : j < (lettersN L 1 1).length) (hb : b < 2) (hb' : b' < 2)
    (h : cor L (2 * free L i + b) = cor L (2 * free L j + b')) : circ L i = circ L j := by
  have key : ∀ i j b b', i < (lettersN L 1 1).length → j < i → b < 2 → b' < 2 → cor L (2 * free L i + b) = cor L (2 * free L j + b') → circ L i = circ L j := fun i j b b' hi hji hb hb' h => by
    refine Cls.eq_of_mem (Cls.tri_mem.2 ⟨hi, hji, b + 2 * b', by omega, ?_⟩)
    unfold touch
    rw [show (b + 2 * b') % 2 = b from by omega, show (b + 2 * b') / 2 = b' from by omega]
    exact decide_eq_true h
  rcases Nat.lt_trichotomy i j with hlt | rfl | hlt
  · exact (key j i b' b hj hlt hb' hb h.symm).symm
  · rfl
  · exact key i j b b' hi hlt hb hb' h
theorem borders_ker {L : List (List Int)} {i j : Nat} (hi : i < (lettersN L 1 1).length) (hj : j < (lettersN L 1 1).length) : circ L i = circ L j ↔ sewn L (2 * free L i) = sewn L (2 * free L j) := by
  constructor
  · intro e
    refine Cls.ker_le (F := fun i => sewn L (2 * free L i)) (fun p hp => ?_) e
    obtain ⟨h1, h2, q, hq, hs⟩ := Cls.tri_mem.1 hp
    unfold touch at hs
    have hs := of_decide_eq_true hs
    have hs' := Cls.eq_append (m := spans (lettersN L 1 1)) hs
    show sewn L (2 * free L p.1) = sewn L (2 * free L p.2)
    rw [← sewn_span (b := q % 2) h1 (by omega), ← sewn_span (b := q / 2) (by omega : p.2 < _) (by omega)]
    exact hs'
  · intro e
    classical
    let G : Nat → Nat := fun v => if hx : ∃ i, i < (lettersN L 1 1).length ∧ ∃ b, b < 2 ∧ cor L (2 * free L i + b) = v then circ L (Classical.choose hx) else 0
    have hG : ∀ i b, i < (lettersN L 1 1).length → b < 2 → G (cor L (2 * free L i + b)) = circ L i := fun i b hi hb => by
      have hx : ∃ i', i' < (lettersN L 1 1).length ∧ ∃ b', b' < 2 ∧ cor L (2 * free L i' + b') = cor L (2 * free L i + b) := ⟨i, hi, b, hb, rfl⟩
      show (if hx : ∃ i', i' < (lettersN L 1 1).length ∧ ∃ b', b' < 2 ∧ cor L (2 * free L i' + b') = cor L (2 * free L i + b) then circ L (Classical.choose hx) else 0) = _
      rw [dif_pos hx]
      obtain ⟨h1, b', hb', h2⟩ := Classical.choose_spec hx
      exact circ_touch h1 hi hb' hb h2
    have := Cls.ker_le (F := fun e => G (cor L e)) (l := corners L ++ spans (lettersN L 1 1)) (fun p hp => by
      rcases List.mem_append.1 hp with hp | hp
      · show G (cor L p.1) = G (cor L p.2)
        rw [show cor L p.1 = cor L p.2 from Cls.eq_of_mem hp]
      · unfold spans at hp
        obtain ⟨k, hk, rfl⟩ := List.mem_map.1 hp
        obtain ⟨i, hi, rfl⟩ := List.mem_iff_getElem.1 hk
        have e := free_at (L := L) (List.getElem?_eq_getElem hi)
        show G (cor L (2 * (lettersN L 1 1)[i])) = G (cor L (2 * (lettersN L 1 1)[i] + 1))
        rw [← e]
        exact (hG i 0 hi (by omega)).trans (hG i 1 hi (by omega)).symm) e
    exact ((hG i 0 hi (by omega)).symm.trans this).trans (hG j 0 hj (by omega))
theorem borders_found (L : List (List Int)) : (Cls.found (sewn L) (begins (lettersN L 1 1))).length = borders L := by
  unfold borders
  rw [Cls.tally_range (circ_ok L)]
  have hb : begins (lettersN L 1 1) = (List.range (lettersN L 1 1).length).map fun i => 2 * free L i := by
    apply List.ext_getElem?
    intro i
    unfold begins
    by_cases hi : i < (lettersN L 1 1).length
    · simp [hi, free, List.getD_eq_getElem?_getD]
    · rw [List.getElem?_eq_none (by simp; omega), List.getElem?_eq_none (by simp; omega)]
  rw [hb, Cls.found_map]
  exact Cls.found_ker fun i hi j hj => (borders_ker (List.mem_range.1 hi) (List.mem_range.1 hj)).symm
theorem touch_at {L : List (List Int)} {i j ki kj : Nat} (hi : (lettersN L 1 1)[i]? = some ki) (hj : (lettersN L 1 1)[j]? = some kj) (e : Nat) : touch L i j e = decide (cor L (2 * ki + e % 2) = cor L (2 * kj + e / 2)) := by
  unfold touch; rw [free_at hi, free_at hj]
end Glue
theorem RowIn.grown {w w' : World} {lo hi : Nat} {t : TypeId} {a : Option Addr} {cs : List Value} {row : Option Nat} (h : RowIn w lo hi t a cs) (hg : w.grownBy w' row) (hr : ∀ k, row = some k → k < lo ∨ hi ≤ k) : RowIn w' lo hi t a cs := by
  rcases h with h | ⟨g, o, all, rfl, h3, h4, hk, hc⟩
  · exact Or.inl h
  · exact Or.inr ⟨g, o, all, rfl, h3, h4, hk.grown hg (fun e => by have := hr g e.symm; omega), hc⟩
theorem RowIn.alloc {w : World} {lo hi : Nat} {t : TypeId} {a : Option Addr} {cs : List Value} (h : RowIn w lo hi t a cs) (o : Obj) : RowIn (w.alloc o) lo hi t a cs :=
  h.below ((Below.refl w.heap.size w).alloc (Nat.le_refl _) o)
theorem Lab.grown {w w' : World} {g n : Nat} {u : Nat → Nat} {row : Option Nat} (h : Lab w g u n) (hg : w.grownBy w' row) (hr : ∀ k, row = some k → k ≠ g) : Lab w' g u n := by
  obtain ⟨all, hk, hc⟩ := h
  exact ⟨all, hk.grown hg (fun e => hr g e.symm rfl), hc⟩
theorem Lab.alloc {w : World} {g n : Nat} {u : Nat → Nat} (h : Lab w g u n) (o : Obj) : Lab (w.alloc o) g u n := by
  obtain ⟨all, hk, hc⟩ := h
  exact ⟨all, hk.alloc o, hc⟩
theorem own_grown {base n size : Nat} {w w' : World} {e : TypeId} {v : Value} {xs : List Value} (h : w.ownsRow base e size v n xs) {row : Option Nat} (hg : w.grownBy w' row) (hr : ∀ k, row = some k → k < base) : w'.ownsRow base e size v n xs := by
  have hlt := h.lt
  obtain ⟨hx, h0 | ⟨g, cap, cur, rfl, hgb, hh, h2⟩⟩ := h
  · exact ⟨hx, Or.inl h0⟩
  · exact ⟨hx, Or.inr ⟨g, cap, cur, rfl, hgb, (hg.block g (hlt g rfl).2 (fun e => by have := hr g e.symm; omega)).trans hh, h2⟩⟩

set_option maxRecDepth 10000 in
set_option maxHeartbeats 2000000 in
theorem impl_CountBorders (a : Option Addr) (c : Nat) (L : List (List Int)) (w : World) (ha : GridAt w a L) (hl : tot L ≤ 1048576) :
    Calls Tryd.prog 36 #[.slice a L.length c] w fun e w' => e = .returned (.int .i64 (Glue.numBorders L)) ∧ Below w.heap.size w w' := by
  have hG := impl_IsGluing a c L w ha hl
  generalize hv : Glue.numBorders L = V
  unfold Glue.numBorders at hv
  have Ha := Lib.hid ha
  by_cases hg : Glue.IsG L
  · rw [if_pos hg, ← Glue.borders_found L] at hv
    unfold Glue.sewn at hv
    rw [decide_eq_true hg] at hG
    have hE := fun W (h : GridAt W a L) => impl_FreeLetters a c L W h hl
    rw [Glue.freeLetters_N hg] at hE
    have hC := fun W (h : GridAt W a L) => impl_cornerClasses a c L W h hg.w (Nat.le_trans hg.2.1 (by decide))
    unfold Glue.cor at hC
    have hlt := fun k => Glue.lettersN_lt (L := L) (lo := 1) (hi := 1) (k := k)
    have hpos := fun k => Glue.lettersN_pos hg (lo := 1) (hi := 1) (k := k) (by omega)
    have hlen := Glue.lettersN_len L 1 1
    obtain ⟨i0, hi0, hz0, hz1, hz2⟩ := info_int_parts
    have Hi0 := Lib.hid hi0; have Hz0 := Lib.hid hz0; have Hz1 := Lib.hid hz1; have Hz2 := Lib.hid hz2
    have HG := Lib.hid hG; have HE := Lib.hid hE; have HC := Lib.hid hC; have Hlt := Lib.hid hlt; have Hpos := Lib.hid hpos; have Hv := Lib.hid hv
    clear hG hE hC hg ha hlt hpos hi0 hz0 hz1 hz2 hv
    generalize Glue.lettersN L 1 1 = K at *
    generalize Glue.corners L = P at *
    generalize hN : w.heap.size = N at *
    have HN := Lib.hid hN
    go_enter Tryd.func36, Tryd.ntmps36
    go_wp2_with fail
    refine HG.out.mono ?_
    rintro e w1 ⟨rfl, hb1⟩
    have hN1 : N ≤ w1.heap.size := by have := hb1.size; rw [HN.out] at this; exact this
    go_wp2_with fail
    refine (HC.out w1 (Ha.out.below (by rw [HN.out]; exact hb1))).mono ?_
    rintro e w2 ⟨g, rfl, hgg, hlab, hb2⟩
    have hb02 := hb1.trans (hb2.mono hN1)
    have hg2 := hlab.lt
    go_wp2_with fail
    refine (HE.out w2 (Ha.out.below (by rw [HN.out]; exact hb02))).mono ?_
    rintro e w3 ⟨ra, rc, rfl, h1, h2, h3, h4⟩
    rw [intsOf_len]
    have hlab3 := hlab.below h4 hg2
    have hb03 := hb02.trans (h4.mono (Nat.le_trans hN1 hb2.size))
    have Hrow := Lib.hid (RowIn.of_fresh h3); have Hlab := Lib.hid hlab3; have Hb := Lib.hid hb03; have HgN := Lib.hid (Nat.le_trans hN1 hgg); have Hg2 := Lib.hid hg2; have H43 := Lib.hid h4.size
    clear hb1 hb2 hb02 hb03 h1 h2 h3 h4 hlab hlab3 hgg hg2 hN1
    have hrow' : Hid (RowIn w3 w2.heap.size w3.heap.size 3 ra (intCells (intsOf K))) := Lib.hid (Hrow.out.mono (Nat.le_refl _) (Nat.le_refl _))
    clear Hrow
    generalize hB : w3.heap.size = B at *
    have HB := Lib.hid hB
    go_wp2
    go_loopw [4, 6, 15] (fun ov _ iv wr => ∃ i : Nat, i ≤ K.length ∧ iv = .int .i64 i ∧ Hid (Below N w wr ∧ B ≤ wr.heap.size) ∧ Hid (Lab wr g (Cls.mergeAll (P ++ Glue.spans (K.take i))) 18) ∧ Hid (RowIn wr w2.heap.size B 3 ra (intCells (intsOf K))) ∧ wr.ownsRow B 3 1 ov (Glue.begins (K.take i)).length (intCells (intsOf (Glue.begins (K.take i))))) (fun _ _ iv _ => K.length - (intOf iv).toNat)
    case atStart => exact ⟨0, by omega, rfl, Lib.hid ⟨Hb.out, by rw [HB.out]; exact Nat.le_refl _⟩, Lib.hid (by rw [List.take_zero, show Glue.spans [] = [] from rfl, List.append_nil]; exact Hlab.out), hrow', World.ownsRow_nil _ _ _ _⟩
    case round =>
      obtain ⟨i, hi, rfl, hb, hlab, hrw, hown⟩ := hrel
      by_cases hlti : i < K.length
      · obtain ⟨k, hk⟩ := get_some hlti
        obtain ⟨b, o, rfl, hbw, hcell⟩ := intCells_get? hrw.out.row (intsOf_get hk)
        have hk9 := Hlt.out k (get_mem hk)
        have hkp := Hpos.out k (get_mem hk)
        have hbeg := fun W => impl_beginOf (k : Int) W (by omega) (by omega)
        have hend := fun W => impl_endOf (k : Int) W (by omega) (by omega)
        rw [Glue.begN_nat] at hbeg
        rw [Glue.endN_nat hkp] at hend
        have hmr := fun za zb h1 h2 => impl_mergeClasses g 18 18 (Cls.mergeAll (P ++ Glue.spans (K.take i))) (2 * k) (2 * k + 1) za zb h1 h2 wr hlab.out (by omega) (by omega) (by omega)
        rw [← Cls.mergeAll_snoc, List.append_assoc, ← Glue.spans_take hk] at hmr
        have hst := Glue.begins_take hk
        have hln := Glue.begins_len (K.take i)
        rw [List.length_take] at hln
        generalize hX : Glue.begins (K.take i) = X at *
        generalize hY : Glue.begins (K.take (i + 1)) = Y at *
        have hxl : X.length ≤ 9 := by omega
        have HY := Lib.hid hY; have Hst := Lib.hid hst; have Hbeg := Lib.hid hbeg; have Hend := Lib.hid hend; have Hmr := Lib.hid hmr
        have hm1 : X.length + 1 ≤ maxLen := by unfold maxLen; omega
        have hm2 : (X.length + 1) * 8 ≤ 140737488355328 := by omega
        obtain ⟨av, cv, rfl⟩ := own_len hown
        clear hX hY hst hbeg hend hk hln hmr
        generalize 2 * k + 1 = m2 at *
        generalize 2 * k = m1 at *
        go_wp2_with fail
        refine (Hbeg.out _).mono ?_
        rintro e w4 ⟨rfl, rfl⟩
        go_wp2_with fail
        refine (Hend.out _).mono ?_
        rintro e w4 ⟨rfl, rfl⟩
        go_wp2_with fail
        refine (Hmr.out _ _ rfl rfl).mono ?_
        rintro e w5 ⟨rfl, hlab5, hg5⟩
        have hgB : g < B := by have := Hg2.out; have := H43.out; omega
        have hown5 := own_grown hown hg5 (fun k hk => by cases hk; exact hgB)
        have hrw5 := hrw.out.grown hg5 (fun k hk => by cases hk; exact Or.inl Hg2.out)
        have hNle : B ≤ w5.heap.size := Nat.le_trans hb.out.2 hg5.size
        have hbw5 : Below N w w5 := hb.out.1.grown hg5 (by have := hb.out.1.size; rw [HN.out] at this; exact this) (fun k hk => by cases hk; exact HgN.out)
        have Hlab5 := Lib.hid hlab5; have Hrw5 := Lib.hid hrw5; have Hbw5 := Lib.hid hbw5; have HgB := Lib.hid hgB
        clear hlab5 hg5 hrw5 hbw5 hown hgB hcell hbw
        go_wp2_with fail
        refine (Hbeg.out _).mono ?_
        rintro e w4 ⟨rfl, rfl⟩
        go_wp2_with (at_builtin; refine append_one rfl (.tmp 25) (.tmp 28) 36 rfl B 3 i0 _ 8 Tryd.underlying36 Hi0.out Hz0.out Hz1.out Hz2.out (by rfl) _ _ _ rfl hown5 (by rfl) _ rfl hm1 hm2 hNle ?_; intro v1 w1 hown1 hg1 _)
        go_roundw
        case rel =>
          refine ⟨i + 1, by omega, by go_num, Lib.hid ⟨Below.grown (Hbw5.out.alloc (by have := Hbw5.out.size; rw [HN.out] at this; exact this) _) hg1 (by have := Hbw5.out.size; rw [HN.out] at this; simp; omega) (fun k hk => by have := (hown5.lt k hk).1; have := HgN.out; have := HgB.out; omega), by have := hg1.size; simp at this; omega⟩, Lib.hid ((Hlab5.out.alloc _).grown hg1 (fun k hk => by have := (hown5.lt k hk).1; have := HgB.out; omega)), Lib.hid ((Hrw5.out.alloc _).grown hg1 (fun k hk => Or.inr (hown5.lt k hk).1)), ?_⟩
          rw [HY.out, Hst.out, intsOf_snoc, ← intCells_snoc, List.length_append]; exact hown1
        case measure => simp [intOf]; omega
      · obtain rfl : i = K.length := by omega
        rw [List.take_of_length_le (Nat.le_refl _)] at hown hlab
        obtain ⟨av, cv, rfl, hrow⟩ := own_row hown (by rw [intCells_len, intsOf_len])
        have hbl := Glue.begins_len K
        have hmem : ∀ m ∈ Glue.begins K, m < 18 := fun m hm => by
          unfold Glue.begins at hm
          obtain ⟨k, hk, rfl⟩ := List.mem_map.1 hm
          have := Hlt.out _ hk
          omega
        generalize Glue.begins K = E at *
        have hel : E.length ≤ 9 := by omega
        generalize Cls.mergeAll (P ++ Glue.spans K) = cc at *
        have hcc := impl_countClasses (some ⟨g, 0, none⟩) av 18 cv 18 cc E wr hlab.out.row hrow hmem (by omega) (by omega)
        have Hcc := Lib.hid hcc; have Hown := Lib.hid hown
        clear hrow hown hbl hmem hcc hel
        go_wp2_with fail
        refine Hcc.out.mono ?_
        rintro e w5 ⟨rfl, hb5⟩
        rw [Hv.out]
        go_wp2
        go_ret
        exact ⟨rfl, hb.out.1.trans (hb5.mono (by have := hb.out.1.size; rw [HN.out] at this; exact this))⟩
  · rw [if_neg hg] at hv
    rw [decide_eq_false hg] at hG
    have HG := Lib.hid hG; have Hv := Lib.hid hv
    clear hG hg ha hv
    go_enter Tryd.func36, Tryd.ntmps36
    go_wp2_with fail
    refine HG.out.mono ?_
    rintro e w1 ⟨rfl, hb1⟩
    go_wp2
    go_ret
    exact ⟨by rw [← Hv.out]; rfl, hb1⟩

set_option maxRecDepth 10000 in
set_option maxHeartbeats 4000000 in
theorem spec_CountBorders (a : Option Addr) (c : Nat) (L : List (List Int)) (w : World) (ha : GridAt w a L) (hl : tot L ≤ 1048576) :
    Calls Tryd.prog 37 #[.slice a L.length c] w fun e w' => e = .returned (.int .i64 (Glue.numBorders L)) ∧ Below w.heap.size w w' := by
  have hG := spec_IsGluing a c L w ha hl
  generalize hv : Glue.numBorders L = V
  unfold Glue.numBorders at hv
  have Ha := Lib.hid ha
  by_cases hg : Glue.IsG L
  · rw [if_pos hg] at hv
    unfold Glue.borders at hv
    rw [decide_eq_true hg] at hG
    have hE := fun W (h : GridAt W a L) => spec_l3Ends a c L W h hg.w (Nat.le_trans hg.2.1 (by decide))
    have hC := fun W (h : GridAt W a L) => spec_l3Letters a c L 1 1 W h hg.w (Nat.le_trans hg.2.2.2.1 (by decide)) (Nat.le_trans hg.2.1 (by decide)) (by omega)
    rw [Glue.letters_ofN] at hC
    have hlt := fun k => Glue.lettersN_lt (L := L) (lo := 1) (hi := 1) (k := k)
    have hlen := Glue.lettersN_len L 1 1
    have htou := fun i j ki kj e => Glue.touch_at (L := L) (i := i) (j := j) (ki := ki) (kj := kj) (e := e)
    have hcirc : Cls.mergeAll (Cls.tri (Glue.touch L) 4 (Glue.lettersN L 1 1).length 0 0) = Glue.circ L := rfl
    obtain ⟨i0, hi0, hz0, hz1, hz2⟩ := info_int_parts
    have Hi0 := Lib.hid hi0; have Hz0 := Lib.hid hz0; have Hz1 := Lib.hid hz1; have Hz2 := Lib.hid hz2
    have HG := Lib.hid hG; have HE := Lib.hid hE; have HC := Lib.hid hC; have Hlt := Lib.hid hlt; have Hv := Lib.hid hv; have Htou := Lib.hid htou; have Hcirc := Lib.hid hcirc
    clear hG hE hC hg ha hlt hi0 hz0 hz1 hz2 hv htou hcirc
    generalize Glue.lettersN L 1 1 = K at *
    generalize Glue.touch L = S at *
    generalize Glue.circ L = rg at *
    generalize Glue.cor L = cc at *
    generalize hN : w.heap.size = N at *
    have HN := Lib.hid hN
    go_enter Tryd.func37, Tryd.ntmps37
    go_wp2_with fail
    refine HG.out.mono ?_
    rintro e w1 ⟨rfl, hb1⟩
    have hN1 : N ≤ w1.heap.size := by have := hb1.size; rw [HN.out] at this; exact this
    go_wp2_with fail
    refine (HC.out w1 (Ha.out.below (by rw [HN.out]; exact hb1))).mono ?_
    rintro e w2 ⟨ra, rc, rfl, h1, h2, h3, h4⟩
    rw [intsOf_len]
    have hb02 := hb1.trans (h4.mono hN1)
    go_wp2_with fail
    refine (HE.out w2 (Ha.out.below (by rw [HN.out]; exact hb02))).mono ?_
    rintro e w3 ⟨g, cap, rfl, hgg, ⟨u, d, hlab, hup⟩, hb3⟩
    have hN2 : N ≤ w2.heap.size := Nat.le_trans hN1 h4.size
    have hrow3 := h3.row.below hb3
    have hb03 := hb02.trans (hb3.mono hN2)
    have hN3 : N ≤ w3.heap.size := Nat.le_trans hN2 hb3.size
    have hlt3 := hlab.lt
    have Hrow := Lib.hid hrow3; have Hlab := Lib.hid hlab; have Hup := Lib.hid hup; have Hb := Lib.hid hb03; have HN3 := Lib.hid hN3; have Hlt3 := Lib.hid hlt3
    clear hb1 hb02 hb03 h1 h2 h3 h4 hlab hgg hup hb3 hrow3 hN1 hN2 hN3 hlt3
    have hmd := own_made (w := w3) rfl
    have hbm := (Below.refl w3.heap.size w3).alloc (Nat.le_refl _) (.cells #[] 3)
    have Hrow3 : Hid (∀ W, Below w3.heap.size w3 W → RowAt W ra (intCells (intsOf K))) := Lib.hid (fun W h => Hrow.out.below h)
    have Hlab3 : Hid (∀ W, Below w3.heap.size w3 W → Lab W g u 18) := Lib.hid (fun W h => Hlab.out.below h Hlt3.out)
    have Hb3 : Hid (∀ W, Below w3.heap.size w3 W → Below N w W) := Lib.hid (fun W h => Hb.out.trans (h.mono HN3.out))
    clear Hrow Hlab Hb Hlt3 HN3
    generalize hB : w3.heap.size = B at *
    have HB := Lib.hid hB
    have Hmd := Lib.hid hmd; have Hbm := Lib.hid hbm
    clear hmd hbm
    go_wp2
    go_loopw [5, 6] (fun ov iv wr => ∃ i : Nat, i ≤ K.length ∧ iv = .int .i64 i ∧ Hid (Below B w3 wr ∧ ov ≠ .slice none 0 0) ∧ wr.ownsRow B 3 1 ov i (intCells (intsOf (List.range i)))) (fun _ iv _ => K.length - (intOf iv).toNat)
    case atStart => exact ⟨0, by omega, rfl, Lib.hid ⟨Hbm.out, fun e => by cases e⟩, Hmd.out⟩
    case round =>
      obtain ⟨i, hi, rfl, hb, hown⟩ := hrel
      by_cases hlti : i < K.length
      · have hNle : B ≤ wr.heap.size := by have := hb.out.1.size; rw [HB.out] at this; exact this
        have hst : List.range (i + 1) = List.range i ++ [i] := List.range_succ
        have Hst := Lib.hid hst
        obtain ⟨av, cv, rfl⟩ := own_len hown
        have hm1 : i + 1 ≤ maxLen := by unfold maxLen; omega
        have hm2 : (i + 1) * 8 ≤ 140737488355328 := by omega
        generalize List.range i = X at *
        generalize hY : List.range (i + 1) = Y at *
        have HY := Lib.hid hY
        clear hY hst
        go_wp2_with (at_builtin; refine append_one rfl (.tmp 26) (.tmp 28) 36 rfl B 3 i0 _ 8 Tryd.underlying36 Hi0.out Hz0.out Hz1.out Hz2.out (by rfl) _ _ _ rfl hown (by rfl) _ rfl hm1 hm2 hNle ?_; intro v1 w1 hown1 hg1 hnn)
        go_roundw
        case rel =>
          refine ⟨i + 1, by omega, by go_num, Lib.hid ⟨Below.grown (hb.out.1.alloc hNle _) hg1 (by simp; omega) (fun k hk => (hown.lt k hk).1), hnn⟩, ?_⟩
          rw [HY.out, Hst.out, intsOf_snoc, ← intCells_snoc]; exact hown1
        case measure => simp [intOf]; omega
      · obtain rfl : i = K.length := by omega
        obtain ⟨gr, capr, rfl, hgB, hcap, hlabr⟩ := own_lab2 hown (by simp) hb.out.2
        have hlab0 : Lab wr gr id K.length := hlabr.congr (fun k hk => by simp [List.getD_eq_getElem?_getD, hk])
        have Hlabr := Lib.hid hlab0; have HgB := Lib.hid hgB; have Hb := Lib.hid hb.out.1
        clear hlabr hlab0 hown hgB hb
        go_wp2
        go_loopw [7, 8, 9] (fun iv _ _ wr => ∃ i : Nat, i ≤ K.length ∧ iv = .int .i64 i ∧ Hid (Below B w3 wr) ∧ Hid (∃ v d, Lab wr gr v K.length ∧ Cls.Up v (Cls.mergeAll (Cls.tri S 4 i 0 0)) d K.length)) (fun iv _ _ _ => K.length - (intOf iv).toNat)
        case atStart => exact ⟨0, by omega, rfl, Hb, Lib.hid ⟨id, _, Hlabr.out, by rw [Cls.tri_zero]; exact Cls.Up.start _⟩⟩
        case round =>
          clear Hb Hlabr
          obtain ⟨i, hi, rfl, hb, hk⟩ := hrel
          by_cases hlti : i < K.length
          · go_wp2
            go_loopw [8, 9] (fun jv _ wr => ∃ j : Nat, j ≤ i ∧ jv = .int .i64 j ∧ Hid (Below B w3 wr) ∧ Hid (∃ v d, Lab wr gr v K.length ∧ Cls.Up v (Cls.mergeAll (Cls.tri S 4 i j 0)) d K.length)) (fun jv _ _ => i - (intOf jv).toNat)
            case atStart => exact ⟨0, by omega, rfl, hb, hk⟩
            case round =>
              clear hb hk
              obtain ⟨j, hj, rfl, hb, hk⟩ := hrel
              by_cases hltj : j < i
              · go_wp2
                go_loopw [9] (fun xv wr => ∃ x : Nat, x ≤ 4 ∧ xv = .int .i64 x ∧ Hid (Below B w3 wr) ∧ Hid (∃ v d, Lab wr gr v K.length ∧ Cls.Up v (Cls.mergeAll (Cls.tri S 4 i j x)) d K.length)) (fun xv _ => 4 - (intOf xv).toNat)
                case atStart => exact ⟨0, by omega, rfl, hb, hk⟩
                case round =>
                  clear hb hk
                  obtain ⟨x, hx4, rfl, hb, hk⟩ := hrel
                  by_cases hltx : x < 4
                  · obtain ⟨ki, hki⟩ := get_some hlti
                    obtain ⟨kj, hkj⟩ := get_some (show j < K.length by omega)
                    have hrw := Hrow3.out wr hb.out
                    obtain ⟨b, o, rfl, hbw, hcell⟩ := intCells_get? hrw (intsOf_get hki)
                    obtain ⟨b', o', e2, hbw', hcell'⟩ := intCells_get? hrw (intsOf_get hkj)
                    cases e2
                    have hk9i := Hlt.out ki (get_mem hki)
                    have hk9j := Hlt.out kj (get_mem hkj)
                    have hti := Htou.out i j ki kj x hki hkj
                    have hf1 := fun z hz W h => spec_l3Find (some ⟨g, 0, none⟩) cap 18 u cc d (2 * ki + x % 2) z hz W h Hup.out (by omega) (by omega)
                    have hf2 := fun z hz W h => spec_l3Find (some ⟨g, 0, none⟩) cap 18 u cc d (2 * kj + x / 2) z hz W h Hup.out (by omega) (by omega)
                    have hyes := fun h => Cls.tri_yes (S := S) (m := 4) (i := i) (j := j) (e := x) h
                    have hno := fun h => Cls.tri_no (S := S) (m := 4) (i := i) (j := j) (e := x) h
                    have hxc : (x : Int) < 4 := by omega
                    have hlabw := Hlab3.out wr hb.out
                    have Hlw := Lib.hid hlabw
                    have h0i : (0 : Int) ≤ (i : Int) := by omega
                    have h1i : (i : Int) < (K.length : Int) := by omega
                    have h0j : (0 : Int) ≤ (j : Int) := by omega
                    have h1j : (j : Int) < (K.length : Int) := by omega
                    have hm0 : 0 ≤ (x : Int) % 2 := by omega
                    have hm1 : (x : Int) % 2 < 2 := by omega
                    have hd0 : 0 ≤ (x : Int) / 2 := by omega
                    have hd1 : (x : Int) / 2 < 2 := by omega
                    by_cases ht : cc (2 * ki + x % 2) = cc (2 * kj + x / 2)
                    · rw [decide_eq_true ht] at hti
                      have hst := hyes hti
                      rw [ht] at hf1
                      generalize cc (2 * kj + x / 2) = v2 at *
                      have Hf1 := Lib.hid hf1; have Hf2 := Lib.hid hf2; have Hst := Lib.hid hst
                      clear hf1 hf2 hst hyes hno hti hki hkj hrw hlabw ht hbw hbw'
                      go_wp2
                      go_quiet (first | exact Calls.quiet_of_same (Hf1.out _ (by omega) _ (Hlw.out.drewN _).row) | exact Calls.quiet_of_same (Hf2.out _ (by omega) _ (Hlw.out.drewN _).row))
                      obtain ⟨v, dd, hlabr, hupr⟩ := hk.out
                      have hlk := hupr.link (p := (i, j)) hlti (by show j < K.length; omega)
                      rw [← Cls.mergeAll_snoc, ← Hst.out] at hlk
                      have hfx := fun W h => spec_l3Find (some ⟨gr, 0, none⟩) capr K.length v _ dd i (i : Int) rfl W h hupr hlti (by omega)
                      have hfy := fun W h => spec_l3Find (some ⟨gr, 0, none⟩) capr K.length v _ dd j (j : Int) rfl W h hupr (by omega) (by omega)
                      have hca := hupr.ok.lt i hlti
                      have hlabq := hlabr.drewN nq
                      have Hbq := Lib.hid (below_drewN hb.out nq)
                      generalize wr.drewN nq = W0 at *
                      have hput := fun b => hlabq.put (b := b) hca
                      have hdst := hlabq.cell hca
                      have hfz := hlabq.frozen (Cls.mergeAll (Cls.tri S 4 i j x) i)
                      generalize Cls.mergeAll (Cls.tri S 4 i j x) i = ca at *
                      generalize Cls.mergeAll (Cls.tri S 4 i j x) j = cb at *
                      have Hfx := Lib.hid hfx; have Hfy := Lib.hid hfy; have Hlk := Lib.hid hlk; have Hrr := Lib.hid hlabq.row; have Hput := Lib.hid (hput cb)
                      have hc0 : (0 : Int) ≤ (ca : Int) := by omega
                      have hc1 : (ca : Int) < (K.length : Int) := by omega
                      clear hfx hfy hlk hupr hlabr hlabq hput hcell hcell' hm0 hm1 hd0 hd1
                      go_wp2_with fail
                      refine (Hfx.out _ Hrr.out).mono ?_
                      rintro e w2 ⟨rfl, rfl⟩
                      go_wp2_with fail
                      refine (Hfy.out _ Hrr.out).mono ?_
                      rintro e w2 ⟨rfl, rfl⟩
                      go_wp2
                      go_roundw
                      case rel => exact ⟨x + 1, by omega, by go_num, Lib.hid (Hbq.out.setCell HgB.out _), Lib.hid ⟨_, _, Hput.out, Hlk.out⟩⟩
                      case measure => simp [intOf]; omega
                    · rw [decide_eq_false ht] at hti
                      have hst := hno hti
                      generalize cc (2 * ki + x % 2) = v1 at *
                      generalize cc (2 * kj + x / 2) = v2 at *
                      have hne : ((v1 : Int) == (v2 : Int)) = false := beq_eq_false_iff_ne.2 (by omega)
                      have Hf1 := Lib.hid hf1; have Hf2 := Lib.hid hf2; have Hst := Lib.hid hst
                      clear hf1 hf2 hst hyes hno hti hki hkj hrw hlabw ht hbw hbw'
                      go_wp2
                      go_quiet (first | exact Calls.quiet_of_same (Hf1.out _ (by omega) _ (Hlw.out.drewN _).row) | exact Calls.quiet_of_same (Hf2.out _ (by omega) _ (Hlw.out.drewN _).row))
                      have Hbq := Lib.hid (below_drewN hb.out nq)
                      have Hkq : Hid (∃ v d, Lab (wr.drewN nq) gr v K.length ∧ Cls.Up v (Cls.mergeAll (Cls.tri S 4 i j (x + 1))) d K.length) := Lib.hid (by rw [Hst.out]; exact hk.out)
                      generalize wr.drewN nq = W0 at *
                      clear hcell hcell' hm0 hm1 hd0 hd1
                      go_wp2
                      go_roundw
                      case rel => exact ⟨x + 1, by omega, by go_num, Hbq, Hkq⟩
                      case measure => simp [intOf]; omega
                  · obtain rfl : x = 4 := by omega
                    rw [Cls.tri_line] at hk
                    go_wp2
                    go_roundw
                    case rel => exact ⟨j + 1, by omega, by go_num, hb, hk⟩
                    case measure => simp [intOf]; omega
              · obtain rfl : j = i := by omega
                rw [Cls.tri_next] at hk
                go_wp2
                go_roundw
                case rel => exact ⟨j + 1, by omega, by go_num, hb, hk⟩
                case measure => simp [intOf]; omega
          · obtain rfl : i = K.length := by omega
            rw [Hcirc.out] at hk
            obtain ⟨v, dd, hlab, hupr⟩ := hk.out
            have Hupr := Lib.hid hupr; have Hlab := Lib.hid hlab; have Hb := Lib.hid (Hb3.out wr hb.out)
            clear hupr hlab hk hb
            go_wp2
            go_loopw [10, 11] (fun sv kv w2 => ∃ k : Nat, k ≤ K.length ∧ kv = .int .i64 k ∧ sv = .int .i64 ((Cls.tally rg (List.range k) : Nat) : Int) ∧ w2 = wr) (fun _ kv _ => K.length - (intOf kv).toNat)
            case atStart => exact ⟨0, by omega, rfl, rfl, rfl⟩
            case round =>
              obtain ⟨k, hk, rfl, rfl, rfl⟩ := hrel
              by_cases hltk : k < K.length
              · have hcell := Hlab.out.cell hltk
                have hroot := Hupr.out.root k hltk
                have hst : Cls.tally rg (List.range (k + 1)) = Cls.tally rg (List.range k) + (if rg k = k then 1 else 0) := by rw [List.range_succ, Cls.tally_snoc]
                have htl := Cls.tally_le rg (List.range k)
                rw [List.length_range] at htl
                generalize v k = uk at *
                obtain ⟨b1, hb1⟩ : ∃ b1, ((uk : Int) == (k : Int)) = b1 := ⟨_, rfl⟩
                have ht1 : (((if rg k = k then 1 else 0) : Nat) : Int) = if b1 then 1 else 0 := by
                  subst hb1
                  by_cases h : uk = k
                  · rw [if_pos (hroot.1 h), if_pos (by simp; omega)]; rfl
                  · rw [if_neg (fun hh => h (hroot.2 hh)), if_neg (by simp; omega)]; rfl
                have hn1 : (if rg k = k then 1 else 0 : Nat) ≤ 1 := by split <;> omega
                generalize (if rg k = k then 1 else 0 : Nat) = n1 at *
                generalize Cls.tally rg (List.range k) = T at *
                generalize hS' : Cls.tally rg (List.range (k + 1)) = T' at *
                have hbit := fun W => spec_l1Bit b1 W
                rw [← ht1] at hbit
                have Hbit := Lib.hid hbit; have HS' := Lib.hid hS'; have Hst := Lib.hid hst
                clear ht1 hbit hroot hst hS'
                go_wp2_with fail
                refine (Hbit.out _).mono ?_
                rintro e w2 ⟨rfl, rfl⟩
                go_wp2
                go_roundw
                case rel => exact ⟨k + 1, by omega, by go_num, by rw [HS'.out, Hst.out]; go_num, trivial⟩
                case measure => simp [intOf]; omega
              · obtain rfl : k = K.length := by omega
                rw [Hv.out]
                go_wp2
                go_ret
                exact ⟨rfl, Hb.out⟩
  · rw [if_neg hg] at hv
    rw [decide_eq_false hg] at hG
    have HG := Lib.hid hG; have Hv := Lib.hid hv
    clear hG hg ha hv
    go_enter Tryd.func37, Tryd.ntmps37
    go_wp2_with fail
    refine HG.out.mono ?_
    rintro e w1 ⟨rfl, hb1⟩
    go_wp2
    go_ret
    exact ⟨by rw [← Hv.out]; rfl, hb1⟩
end Go.Proofs.YtpgdmbolckogcaaDoor
namespace Go.Proofs.YtpgdmbolckogcaaDoor
open Go.RowKit

namespace Glue
def bitOf (set p : Nat) : Bool := set / 2 ^ p % 2 == 1
def turRow (set p : Nat) (r : List Int) : List Int := if bitOf set p then r.map (fun x => -x) else r
/-- The polygons at the bits of a set, their letters inverse. -/
def tur (set : Nat) (L : List (List Int)) : List (List Int) := (List.range L.length).map fun p => turRow set p (L.getD p [])
def flip (set p : Nat) (x : Int) : Int := if bitOf set p then -x else x
theorem tur_len (set : Nat) (L : List (List Int)) : (tur set L).length = L.length := by simp [tur]
theorem turRow_len (set p : Nat) (r : List Int) : (turRow set p r).length = r.length := by unfold turRow; split <;> simp
theorem tur_get {set p : Nat} {L : List (List Int)} {r : List Int} (h : L[p]? = some r) : (tur set L)[p]? = some (turRow set p r) := by
  obtain ⟨h1, rfl⟩ := List.getElem?_eq_some_iff.1 h
  unfold tur
  rw [List.getElem?_map, List.getElem?_range h1]
  simp [List.getD_eq_getElem?_getD, h1]
theorem turRow_get {set p j : Nat} {r : List Int} {x : Int} (h : r[j]? = some x) : (turRow set p r)[j]? = some (flip set p x) := by
  unfold turRow flip
  split
  · rw [List.getElem?_map, h]; rfl
  · exact h
theorem flip_abs (set p : Nat) (x : Int) : (flip set p x).natAbs = x.natAbs := by unfold flip; split <;> omega
def sgn (x : Int) : Int := if 0 < x then 1 else -1
/-- The signs of a letter together. -/
def sg (l : List Int) (x : Nat) : Int := ((l.filter fun y => y.natAbs == x).map sgn).sum
theorem sg_nil (x : Nat) : sg [] x = 0 := rfl
theorem sg_snoc (l : List Int) (y : Int) (x : Nat) : sg (l ++ [y]) x = sg l x + if y.natAbs = x then sgn y else 0 := by
  unfold sg
  rw [List.filter_append, List.map_append, List.sum_append]
  by_cases h : y.natAbs = x
  · simp [h]
  · simp [h]
theorem sgn_one (x : Int) : sgn x = 1 ∨ sgn x = -1 := by unfold sgn; split <;> simp
theorem sg_bound (l : List Int) (x : Nat) : -(l.length : Int) ≤ sg l x ∧ sg l x ≤ l.length := by
  induction l using Cls.snoc_ind with
  | h0 => simp [sg]
  | h1 l y ih =>
    rw [sg_snoc, List.length_append, List.length_singleton]
    have := sgn_one y
    split <;> omega
/-- The program's way: the signs of all letters in a row. -/
def signPut (s : List Int) (y : Int) : List Int := s.set y.natAbs (s.getD y.natAbs 0 + sgn y)
def signRow (l : List Int) : List Int := l.foldl signPut (List.replicate 9 0)
theorem signRow_snoc (l : List Int) (y : Int) : signRow (l ++ [y]) = signPut (signRow l) y := by simp [signRow]
theorem signPut_len (s : List Int) (y : Int) : (signPut s y).length = s.length := by simp [signPut]
theorem signRow_len (l : List Int) : (signRow l).length = 9 := by
  induction l using Cls.snoc_ind with
  | h0 => rfl
  | h1 l y ih => rw [signRow_snoc, signPut_len, ih]
theorem signRow_get (l : List Int) (x : Nat) (hx : x < 9) : (signRow l).getD x 0 = sg l x := by
  induction l using Cls.snoc_ind with
  | h0 => rw [signRow, List.foldl_nil, List.getD_eq_getElem?_getD, List.getElem?_replicate]; simp [hx, sg]
  | h1 l y ih =>
    rw [signRow_snoc, sg_snoc, signPut, List.getD_eq_getElem?_getD, List.getElem?_set]
    by_cases h : y.natAbs = x
    · subst h
      rw [if_pos rfl, if_pos (by rw [signRow_len]; exact hx), if_pos rfl, Option.getD_some, ih]
    · rw [if_neg h, if_neg h, Int.add_zero, ← ih, List.getD_eq_getElem?_getD]
/-- The sum of the signs of a letter that occurs twice, polygons of a set turned; 0 for other letters. -/
def signs (L : List (List Int)) (set x : Nat) : Int := if (L.flatten.filter fun y => y.natAbs == x).length < 2 then 0 else sg (tur set L).flatten x
def Cancels (L : List (List Int)) (set : Nat) : Prop := ∀ x, 1 ≤ x → x ≤ 8 → signs L set x = 0
def Two (L : List (List Int)) : Prop := IsG L ∧ ∃ set, set < 2 ^ L.length ∧ Cancels L set
def twoB (L : List (List Int)) : Bool := decide (IsG L) && (List.range (2 ^ L.length)).any fun s => (List.range 9).all fun x => x == 0 || signs L s x == 0
theorem twoB_iff (L : List (List Int)) : twoB L = true ↔ Two L := by
  unfold twoB Two Cancels
  simp only [Bool.and_eq_true, decide_eq_true_eq, List.any_eq_true, List.all_eq_true, List.mem_range, Bool.or_eq_true, beq_iff_eq]
  constructor
  · rintro ⟨h, s, hs, hc⟩
    exact ⟨h, s, hs, fun x h1 h8 => (hc x (by omega)).resolve_left (by omega)⟩
  · rintro ⟨h, s, hs, hc⟩
    exact ⟨h, s, hs, fun x hx => by
      rcases Nat.eq_zero_or_pos x with h0 | h0
      · exact Or.inl h0
      · exact Or.inr (hc x h0 (by omega))⟩
def cancelB (L : List (List Int)) (s : Nat) : Bool := (List.range 9).all fun x => x == 0 || signs L s x == 0
theorem cancelB_iff (L : List (List Int)) (s : Nat) : cancelB L s = true ↔ Cancels L s := by
  unfold cancelB Cancels
  simp only [List.all_eq_true, List.mem_range, Bool.or_eq_true, beq_iff_eq]
  constructor
  · intro hc x h1 h8; exact (hc x (by omega)).resolve_left (by omega)
  · intro hc x hx
    rcases Nat.eq_zero_or_pos x with h0 | h0
    · exact Or.inl h0
    · exact Or.inr (hc x h0 (by omega))
/-- The program's test. -/
def Fails (L : List (List Int)) (set x : Nat) : Prop := (uses L).getD x 0 = 2 ∧ (signRow (tur set L).flatten).getD x 0 ≠ 0
theorem cancels_iff {L : List (List Int)} (h : IsG L) (set : Nat) : Cancels L set ↔ ∀ x, x < 9 → ¬ Fails L set x := by
  have key : ∀ x, x < 9 → (signs L set x = 0 ↔ ¬ Fails L set x) := by
    intro x hx
    have hc := count_get L.flatten x hx
    have h2 : (uses L).getD x 0 ≤ 2 := by
      have hk : x < (uses L).length := by rw [uses_len]; exact hx
      rw [← uses_at _ hk]; exact h.2.2.2.2 _ (List.getElem_mem hk)
    unfold Fails signs
    rw [signRow_get _ x hx]
    unfold uses at h2 ⊢
    rw [hc] at h2 ⊢
    by_cases hl : (L.flatten.filter fun y => y.natAbs == x).length < 2
    · rw [if_pos hl]
      constructor
      · intro _ hh; omega
      · intro _; rfl
    · rw [if_neg hl]
      constructor
      · rintro e ⟨_, hh⟩; exact hh e
      · intro hh
        rcases Classical.em (sg (tur set L).flatten x = 0) with e | e
        · exact e
        · exact absurd ⟨by omega, e⟩ hh
  constructor
  · intro hc x hx
    rcases Nat.eq_zero_or_pos x with rfl | h0
    · rintro ⟨hu, _⟩
      have hz : (uses L).getD 0 0 = 0 := count_zero (letters_of h.w)
      omega
    · exact (key x hx).1 (hc x h0 (by omega))
  · intro hf x h1 h8
    exact (key x (by omega)).2 (hf x (by omega))
end Glue
end Go.Proofs.YtpgdmbolckogcaaDoor
namespace Go.Proofs.YtpgdmbolckogcaaDoor
open Go.RowKit

theorem bits_one (m : Nat) (hm : m < 16) : bits .and .i64 (m : Int) 1 = ((m % 2 : Nat) : Int) := by
  have key : ∀ k : Fin 16, bits .and .i64 ((k.val : Nat) : Int) 1 = ((k.val % 2 : Nat) : Int) := by decide +kernel
  exact key ⟨m, hm⟩
namespace Glue
theorem tur_sum (set : Nat) (L : List (List Int)) : sumLen (tur set L) = sumLen L := by
  unfold sumLen
  congr 1
  apply List.ext_getElem?
  intro p
  rw [List.getElem?_map, List.getElem?_map]
  rcases Nat.lt_or_ge p L.length with h | h
  · rw [tur_get (List.getElem?_eq_getElem h), List.getElem?_eq_getElem h]; simp [turRow_len]
  · rw [List.getElem?_eq_none (by rw [tur_len]; exact h), List.getElem?_eq_none h]
end Glue
/-- The bit p of a set, as the walk says it. -/
theorem bit_value (set p : Nat) (hs : set < 16) : bits .and .i64 ((set : Int) / 2 ^ p) 1 = if Glue.bitOf set p then 1 else 0 := by
  have hc : ((set : Int) / 2 ^ p) = ((set / 2 ^ p : Nat) : Int) := by
    rw [Int.natCast_ediv, Int.natCast_pow]; rfl
  have hl : set / 2 ^ p < 16 := Nat.lt_of_le_of_lt (Nat.div_le_self _ _) hs
  rw [hc, bits_one _ hl]
  unfold Glue.bitOf
  by_cases h : set / 2 ^ p % 2 = 1
  · rw [if_pos (by simpa using h)]; omega
  · rw [if_neg (by simpa using h)]; omega

set_option maxRecDepth 10000 in
set_option maxHeartbeats 2000000 in
theorem spec_l3Signs (a : Option Addr) (c : Nat) (L : List (List Int)) (set x : Nat) (zs zx : Int) (hzs : zs = ((set : Nat) : Int)) (hzx : zx = ((x : Nat) : Int)) (w : World) (ha : GridAt w a L) (hw : ∀ p ∈ L, Word.IsW p) (hs : sumLen L ≤ 1000) (hn : L.length ≤ 4) (hset : set < 16) (hx : x < 100) :
    Calls Tryd.prog 79 #[.slice a L.length c, .int .i64 zs, .int .i64 zx] w fun e w' => e = .returned (.int .i64 (Glue.signs L set x)) ∧ Below w.heap.size w w' := by
  subst hzs; subst hzx
  have Ha := Lib.hid ha; have Hw := Lib.hid hw; have Hs := Lib.hid hs
  generalize hv : Glue.signs L set x = V
  have Hv := Lib.hid hv
  clear ha hw hs hv
  go_enter Tryd.func79, Tryd.ntmps79
  go_wp2
  go_loopw [7, 8, 9, 10] (fun sv nv iv _ wr => ∃ i : Nat, i ≤ L.length ∧ iv = .int .i64 i ∧ sv = .int .i64 (Glue.sg (Glue.upTo (Glue.tur set L) i 0) x) ∧ nv = .int .i64 ((((Glue.upTo L i 0).filter fun y => y.natAbs == x).length : Nat) : Int) ∧ Hid (Below w.heap.size w wr)) (fun _ _ iv _ _ => L.length - (intOf iv).toNat)
  case atStart => exact ⟨0, by omega, rfl, by rw [Glue.upTo_zero]; rfl, by rw [Glue.upTo_zero]; rfl, Lib.hid (Below.refl _ _)⟩
  case round =>
    obtain ⟨i, hi, rfl, rfl, rfl, hb⟩ := hrel
    by_cases hlt : i < L.length
    · obtain ⟨r, hr⟩ := get_some hlt
      have Hr := Lib.hid hr
      have hwi := Hw.out r (get_mem hr)
      have hll : r.length ≤ 24 := hwi.2
      have Hwi := Lib.hid hwi
      clear hr hwi
      go_wp2
      go_loopw [7, 8, 10] (fun sv nv jv wr => ∃ j : Nat, j ≤ r.length ∧ jv = .int .i64 j ∧ sv = .int .i64 (Glue.sg (Glue.upTo (Glue.tur set L) i j) x) ∧ nv = .int .i64 ((((Glue.upTo L i j).filter fun y => y.natAbs == x).length : Nat) : Int) ∧ Hid (Below w.heap.size w wr)) (fun _ _ jv _ => r.length - (intOf jv).toNat)
      case atStart => exact ⟨0, by omega, rfl, rfl, rfl, hb⟩
      case round =>
        clear hb
        obtain ⟨j, hj, rfl, rfl, rfl, hb⟩ := hrel
        obtain ⟨b, o, ai, ci, rfl, hbw, hcell, hrow⟩ := (Ha.out.below hb.out).get Hr.out
        by_cases hjt : j < r.length
        · obtain ⟨y, hy⟩ := get_some hjt
          obtain ⟨b', o', rfl, hbw', hcell'⟩ := intCells_get? hrow hy
          obtain ⟨hy0, hy1, hy2⟩ := Hwi.out.1 y (get_mem hy)
          have habs := fun W => spec_l3Abs y W (by omega) (by omega)
          have hst1 := Glue.upTo_step (Glue.tur_get (set := set) Hr.out) (Glue.turRow_get (set := set) (p := i) hy)
          have hst2 := Glue.upTo_step Hr.out hy
          have hsg := Glue.sg_snoc (Glue.upTo (Glue.tur set L) i j) (Glue.flip set i y) x
          rw [← hst1, Glue.flip_abs] at hsg
          have hcn : (((Glue.upTo L i (j + 1)).filter fun y => y.natAbs == x).length : Nat) = ((Glue.upTo L i j).filter fun y => y.natAbs == x).length + if y.natAbs = x then 1 else 0 := by
            rw [hst2, List.filter_append, List.length_append]
            by_cases h : y.natAbs = x <;> simp [h]
          have hbd := Glue.sg_bound (Glue.upTo (Glue.tur set L) i j) x
          have hl1 := Glue.upTo_len j (Glue.tur_get (set := set) Hr.out)
          have hl2 := Glue.upTo_len j Hr.out
          have hl3 := List.length_filter_le (fun y : Int => y.natAbs == x) (Glue.upTo L i j)
          have hl4 : (Glue.tur set L).flatten.length ≤ 1000 := by rw [← sumLen_flat, Glue.tur_sum]; exact Hs.out
          have hl5 : L.flatten.length ≤ 1000 := by rw [← sumLen_flat]; exact Hs.out
          have hbit := bit_value set i hset
          have hfl : Glue.flip set i y = if Glue.bitOf set i then -y else y := rfl
          have hsgn : Glue.sgn (Glue.flip set i y) = if (0 < y) ↔ (Glue.bitOf set i = true) then -1 else 1 := by
            rw [hfl]; unfold Glue.sgn
            cases Glue.bitOf set i
            · simp only [Bool.false_eq_true, if_false, iff_false]
              by_cases h : 0 < y <;> simp [h]
            · simp only [if_true, iff_true]
              by_cases h : 0 < y
              · rw [if_neg (by omega), if_pos h]
              · rw [if_pos (by omega), if_neg h]
          rw [hsgn] at hsg
          generalize Glue.sg (Glue.upTo (Glue.tur set L) i j) x = G at *
          generalize hG' : Glue.sg (Glue.upTo (Glue.tur set L) i (j + 1)) x = G' at *
          generalize ((Glue.upTo L i j).filter fun y => y.natAbs == x).length = C at *
          generalize hC' : ((Glue.upTo L i (j + 1)).filter fun y => y.natAbs == x).length = C' at *
          have hGb0 : -1000 ≤ G := by omega
          have hGb1 : G ≤ 1000 := by omega
          have hCb : C ≤ 1000 := by omega
          generalize y.natAbs = ya at *
          generalize Glue.bitOf set i = bt at *
          have HG' := Lib.hid hG'; have HC' := Lib.hid hC'; have Habs := Lib.hid habs
          have hi64 : (i : Int) ≤ 64 := by omega
          clear hG' hC' habs hst1 hst2 hl1 hl2 hl3 hl4 hl5 hbd hfl hsgn hrow hy hbw hbw'
          by_cases hex : ya = x
          · have heq : ((ya : Int) == (x : Int)) = true := by rw [hex]; simp
            rw [if_pos hex] at hsg hcn
            have Hcn := Lib.hid hcn
            clear hcn hex
            by_cases hp : 0 < y
            · cases bt
              · rw [if_neg (by simp [hp])] at hsg
                rw [if_neg (by simp)] at hbit
                have Hsg := Lib.hid hsg; clear hsg
                go_wp2_with fail
                refine (Habs.out _).mono ?_
                rintro e w1 ⟨rfl, rfl⟩
                go_wp2
                go_roundw
                case rel => exact ⟨j + 1, by omega, by go_num, by rw [HG'.out, Hsg.out] <;> first | rfl | (congr 1), by rw [HC'.out, Hcn.out]; go_num, hb⟩
                case measure => simp [intOf]; omega
              · rw [if_pos (by simp [hp])] at hsg
                rw [if_pos rfl] at hbit
                have Hsg := Lib.hid hsg; clear hsg
                go_wp2_with fail
                refine (Habs.out _).mono ?_
                rintro e w1 ⟨rfl, rfl⟩
                go_wp2
                go_roundw
                case rel => exact ⟨j + 1, by omega, by go_num, by rw [HG'.out, Hsg.out] <;> first | rfl | (congr 1), by rw [HC'.out, Hcn.out]; go_num, hb⟩
                case measure => simp [intOf]; omega
            · have hp' : decide (0 < y) = false := decide_eq_false hp
              cases bt
              · rw [if_pos (by simp [hp])] at hsg
                rw [if_neg (by simp)] at hbit
                have Hsg := Lib.hid hsg; clear hsg
                go_wp2_with fail
                refine (Habs.out _).mono ?_
                rintro e w1 ⟨rfl, rfl⟩
                go_wp2
                go_roundw
                case rel => exact ⟨j + 1, by omega, by go_num, by rw [HG'.out, Hsg.out] <;> first | rfl | (congr 1), by rw [HC'.out, Hcn.out]; go_num, hb⟩
                case measure => simp [intOf]; omega
              · rw [if_neg (by simp [hp])] at hsg
                rw [if_pos rfl] at hbit
                have Hsg := Lib.hid hsg; clear hsg
                go_wp2_with fail
                refine (Habs.out _).mono ?_
                rintro e w1 ⟨rfl, rfl⟩
                go_wp2
                go_roundw
                case rel => exact ⟨j + 1, by omega, by go_num, by rw [HG'.out, Hsg.out] <;> first | rfl | (congr 1), by rw [HC'.out, Hcn.out]; go_num, hb⟩
                case measure => simp [intOf]; omega
          · have heq : ((ya : Int) == (x : Int)) = false := beq_eq_false_iff_ne.2 (by omega)
            rw [if_neg hex] at hsg hcn
            have Hcn := Lib.hid hcn; have Hsg := Lib.hid hsg
            clear hcn hsg hex hbit
            go_wp2_with fail
            refine (Habs.out _).mono ?_
            rintro e w1 ⟨rfl, rfl⟩
            go_wp2
            go_roundw
            case rel => exact ⟨j + 1, by omega, by go_num, by rw [HG'.out, Hsg.out, Int.add_zero], by rw [HC'.out, Hcn.out, Nat.add_zero], hb⟩
            case measure => simp [intOf]; omega
        · obtain rfl : j = r.length := by omega
          have hn1 := Glue.upTo_next (Glue.tur_get (set := set) Hr.out)
          rw [Glue.turRow_len] at hn1
          rw [hn1, Glue.upTo_next Hr.out]
          clear hn1
          go_wp2
          go_roundw
          case rel => exact ⟨i + 1, by omega, by go_num, rfl, rfl, hb⟩
          case measure => simp [intOf]; omega
    · obtain rfl : i = L.length := by omega
      have ht : Glue.upTo (Glue.tur set L) L.length 0 = (Glue.tur set L).flatten := by
        have := Glue.upTo_all (Glue.tur set L)
        rwa [Glue.tur_len] at this
      rw [ht, Glue.upTo_all]
      have hv := Hv.out
      unfold Glue.signs at hv
      have hl3 := List.length_filter_le (fun y : Int => y.natAbs == x) L.flatten
      have hl5 : L.flatten.length ≤ 1000 := by rw [← sumLen_flat]; exact Hs.out
      generalize (L.flatten.filter fun y => y.natAbs == x).length = C at *
      generalize Glue.sg (Glue.tur set L).flatten x = G at *
      clear hl3 hl5 ht
      by_cases hc : C < 2
      · rw [if_pos hc] at hv
        have Hv2 := Lib.hid hv; clear hv
        have hci : (C : Int) < 2 := by omega
        go_wp2
        go_ret
        exact ⟨by rw [← Hv2.out]; rfl, hb.out⟩
      · rw [if_neg hc] at hv
        have Hv2 := Lib.hid hv; clear hv
        have hci : ¬ ((C : Int) < 2) := by omega
        go_wp2
        go_ret
        exact ⟨by rw [← Hv2.out]; rfl, hb.out⟩

set_option maxRecDepth 10000 in
set_option maxHeartbeats 2000000 in
theorem spec_IsTwoSided (a : Option Addr) (c : Nat) (L : List (List Int)) (w : World) (ha : GridAt w a L) (hl : tot L ≤ 1048576) :
    Calls Tryd.prog 35 #[.slice a L.length c] w fun e w' => e = .returned (.bool (Glue.twoB L)) ∧ Below w.heap.size w w' := by
  have hv := Glue.twoB_iff L
  generalize Glue.twoB L = v at *
  have Hv := Lib.hid hv; clear hv
  have hG := spec_IsGluing a c L w ha hl
  have Ha := Lib.hid ha
  by_cases hg : Glue.IsG L
  · rw [decide_eq_true hg] at hG
    have hS := fun set x zs zx h1 h2 W (h : GridAt W a L) hset hx => spec_l3Signs a c L set x zs zx h1 h2 W h hg.w (Nat.le_trans hg.2.2.2.1 (by decide)) hg.2.1 hset hx
    have hl4 := hg.2.1
    have HG := Lib.hid hG; have Hg := Lib.hid hg; have HS := Lib.hid hS
    obtain ⟨M, hM⟩ : ∃ M, M = 2 ^ L.length := ⟨_, rfl⟩
    have hM16 : M ≤ 16 := by rw [hM]; exact Nat.pow_le_pow_right (n := 2) (by omega) hl4
    have hpi : (2 : Int) ^ L.length = ((M : Nat) : Int) := by rw [hM, Int.natCast_pow]; rfl
    have HM := Lib.hid hM
    clear hM
    clear hG hg ha hS
    go_enter Tryd.func35, Tryd.ntmps35
    go_wp2_with fail
    refine HG.out.mono ?_
    rintro e w1 ⟨rfl, hb1⟩
    have Hb1 := Lib.hid hb1
    clear hb1
    go_wp2
    go_loopw [3, 4, 5] (fun sv _ _ wr => ∃ s : Nat, s ≤ M ∧ sv = .int .i64 s ∧ Hid (Below w.heap.size w wr) ∧ Hid (∀ t, t < s → ¬ Glue.Cancels L t)) (fun sv _ _ _ => M - (intOf sv).toNat)
    case atStart => exact ⟨0, by omega, rfl, Hb1, Lib.hid (fun _ h => by omega)⟩
    case round =>
      obtain ⟨s, hs, rfl, hb, hno⟩ := hrel
      by_cases hst : s < M
      · have hsi : (s : Int) < (M : Int) := by omega
        have HS2 := Lib.hid (fun x zs zx h1 h2 W h hx => HS.out s x zs zx h1 h2 W h (by omega) hx)
        go_wp2
        go_loopw [4, 5] (fun fv xv wr => ∃ x : Nat, 1 ≤ x ∧ x ≤ 9 ∧ xv = .int .i64 x ∧ Hid (Below w.heap.size w wr) ∧ ∃ f : Bool, fv = .bool f ∧ Hid (f = true ↔ ∀ y, 1 ≤ y → y < x → Glue.signs L s y = 0)) (fun _ xv _ => 9 - (intOf xv).toNat)
        case atStart => exact ⟨1, by omega, by omega, rfl, hb, true, rfl, Lib.hid ⟨fun _ y h1 h2 => by omega, fun _ => rfl⟩⟩
        case round =>
          clear hb
          obtain ⟨x, hx1, hx9, rfl, hb, f, rfl, hf⟩ := hrel
          by_cases hx8 : x ≤ 8
          · have hxi : (x : Int) ≤ 8 := by omega
            have hc := HS2.out x (s : Int) (x : Int) rfl rfl wr (Ha.out.below hb.out) (by omega)
            have hnext : ∀ f' : Bool, (f' = true ↔ (f = true ∧ Glue.signs L s x = 0)) → (f' = true ↔ ∀ y, 1 ≤ y → y < x + 1 → Glue.signs L s y = 0) := fun f' h => by
              rw [h, hf.out]
              constructor
              · rintro ⟨h1, h2⟩ y hy1 hy2
                rcases Nat.lt_or_ge y x with h3 | h3
                · exact h1 y hy1 h3
                · obtain rfl : y = x := by omega
                  exact h2
              · intro h1
                exact ⟨fun y hy1 hy2 => h1 y hy1 (by omega), h1 x hx1 (by omega)⟩
            generalize Glue.signs L s x = q at *
            have Hc := Lib.hid hc; have Hnext := Lib.hid hnext
            clear hc hnext hf
            cases f
            · have hf' := Lib.hid (Hnext.out false (by simp))
              go_wp2
              go_roundw
              case rel => exact ⟨x + 1, by omega, by omega, by go_num, hb, false, rfl, hf'⟩
              case measure => simp [intOf]; omega
            · go_wp2_with fail
              refine Hc.out.mono ?_
              rintro e w2 ⟨rfl, hb2⟩
              obtain ⟨bq, hbq⟩ : ∃ bq, (q == (0 : Int)) = bq := ⟨_, rfl⟩
              have hf' := Lib.hid (Hnext.out bq (by rw [← hbq]; simp))
              have Hb2 := Lib.hid (hb.out.trans (hb2.mono hb.out.size))
              clear hb2
              go_wp2
              go_roundw
              case rel => exact ⟨x + 1, by omega, by omega, by go_num, Hb2, bq, rfl, hf'⟩
              case measure => simp [intOf]; omega
          · obtain rfl : x = 9 := by omega
            have hcan : f = true ↔ Glue.Cancels L s := by
              rw [hf.out]; unfold Glue.Cancels
              exact ⟨fun h y h1 h8 => h y h1 (by omega), fun h y h1 h2 => h y h1 (by omega)⟩
            have Hcan := Lib.hid hcan
            clear hcan hf
            cases f
            · have hn : Hid (∀ t, t < s + 1 → ¬ Glue.Cancels L t) := Lib.hid (fun t ht => by
                rcases Nat.lt_or_ge t s with h | h
                · exact hno.out t h
                · obtain rfl : t = s := by omega
                  intro hc; have := Hcan.out.2 hc; cases this)
              go_wp2
              go_roundw
              case rel => exact ⟨s + 1, by omega, by go_num, hb, hn⟩
              case measure => simp [intOf]; omega
            · have hvt : v = true := Hv.out.2 ⟨Hg.out, s, by rw [← HM.out]; exact hst, Hcan.out.1 rfl⟩
              have Ht := Lib.hid hvt; clear hvt
              go_wp2
              go_ret
              exact ⟨by rw [Ht.out]; rfl, hb.out⟩
      · have hsi : ¬ ((s : Int) < (M : Int)) := by omega
        have hvf : v = false := by
          rw [Bool.eq_false_iff]
          intro h
          obtain ⟨_, t, ht, hc⟩ := Hv.out.1 h
          exact absurd hc (hno.out t (by rw [← HM.out] at ht; omega))
        have Hf := Lib.hid hvf; clear hvf
        go_wp2
        go_ret
        exact ⟨by rw [Hf.out]; rfl, hb.out⟩
  · rw [decide_eq_false hg] at hG
    have HG := Lib.hid hG; have Hg := Lib.hid hg
    clear hG hg ha
    go_enter Tryd.func35, Tryd.ntmps35
    go_wp2_with fail
    refine HG.out.mono ?_
    rintro e w1 ⟨rfl, hb1⟩
    have hvf : v = false := by
      rw [Bool.eq_false_iff]
      intro h
      exact Hg.out (Hv.out.1 h).1
    have Hf := Lib.hid hvf; clear hvf
    go_wp2
    go_ret
    exact ⟨by rw [Hf.out]; rfl, hb1⟩

theorem sign_cells (s : List Int) (x : Int) (d : Int) (hd : Glue.sgn x = d) : (intCells s).toArray.setIfInBounds x.natAbs (.int .i64 (s.getD x.natAbs 0 + d)) = (intCells (Glue.signPut s x)).toArray := by
  unfold Glue.signPut
  rw [hd]
  simp [intCells, List.map_set]

set_option maxRecDepth 10000 in
set_option maxHeartbeats 2000000 in
theorem impl_sidesCancel (a : Option Addr) (c : Nat) (L : List (List Int)) (set : Nat) (w : World) (ha : GridAt w a L) (hg : Glue.IsG L) (hset : set < 16) :
    Calls Tryd.prog 78 #[.slice a L.length c, .int .i64 (set : Int)] w fun e w' => e = .returned (.bool (Glue.cancelB L set)) ∧ Below w.heap.size w w' := by
  have hv := (Glue.cancelB_iff L set).trans (Glue.cancels_iff hg set)
  generalize Glue.cancelB L set = v at *
  have hU := fun W (h : GridAt W a L) => impl_countLetters a c L W h hg.w (Nat.le_trans hg.2.2.2.1 (by decide)) (Nat.le_trans hg.2.1 (by decide))
  have hix := fun k (hk : k < 9) W => arr_index (Glue.uses L) (Glue.uses_len L) k hk W
  have hl4 := hg.2.1
  have hsm : sumLen L ≤ 20 := hg.2.2.2.1
  have Hv := Lib.hid hv; have HU := Lib.hid hU; have Hix := Lib.hid hix; have Ha := Lib.hid ha; have Hw := Lib.hid hg.w; have Hsm := Lib.hid hsm
  clear hv hU hix ha hg hsm
  generalize hN : w.heap.size = N at *
  have HN := Lib.hid hN
  go_enter Tryd.func78, Tryd.ntmps78
  go_wp2
  go_loopw [6, 7, 8, 10, 15] (fun _ _ _ _ iv wr => ∃ i : Nat, i ≤ L.length ∧ iv = .int .i64 i ∧ Hid (Below N w wr) ∧ Hid (Blk wr N 54 (intCells (Glue.signRow (Glue.upTo (Glue.tur set L) i 0))).toArray)) (fun _ _ _ _ iv _ => L.length - (intOf iv).toNat)
  case atStart =>
    refine ⟨0, by omega, rfl, Lib.hid ?_, Lib.hid ?_⟩
    · have h := (Below.refl w.heap.size w).alloc (Nat.le_refl _) (.cells (intCells (Glue.signRow [])).toArray 54)
      rw [HN.out] at h; exact h
    · have h := Blk.new w 54 (intCells (Glue.signRow [])).toArray
      rw [HN.out] at h; exact h
  case round =>
    obtain ⟨i, hi, rfl, hb, hk⟩ := hrel
    by_cases hlt : i < L.length
    · obtain ⟨r, hr⟩ := get_some hlt
      have Hr := Lib.hid hr
      have hwi := Hw.out r (get_mem hr)
      have hll : r.length ≤ 24 := hwi.2
      have Hwi := Lib.hid hwi
      clear hr hwi
      obtain ⟨b, o, ai, ci, rfl, hbw, hcell0, hrow⟩ := Ha.out.get Hr.out
      have hcell : wr.cell? ⟨b, o + i, none⟩ = some (.slice ai r.length ci) := by rw [hb.out.cell (by rw [← HN.out]; exact hbw)]; exact hcell0
      have Hrow := Lib.hid hrow
      have hbit := bit_value set i hset
      have hi64 : (i : Int) ≤ 64 := by omega
      have hfl : ∀ y, Glue.flip set i y = if Glue.bitOf set i then -y else y := fun _ => rfl
      generalize Glue.bitOf set i = bt at *
      obtain ⟨d, hd⟩ : ∃ d : Int, (1 - 2 * (if bt then 1 else 0)) = d := ⟨_, rfl⟩
      have hdn : ∀ y, Word.Letter y → Glue.sgn (Glue.flip set i y) = if y < 0 then -d else d := fun y hy => by
        rw [hfl, ← hd]
        unfold Glue.sgn
        obtain ⟨h0, _, _⟩ := hy
        cases bt
        · simp only [Bool.false_eq_true, if_false]
          by_cases h : y < 0
          · rw [if_neg (by omega), if_pos h]; rfl
          · rw [if_pos (by omega), if_neg h]; rfl
        · simp only [if_true]
          by_cases h : y < 0
          · rw [if_pos (by omega), if_pos h]; rfl
          · rw [if_neg (by omega), if_neg h]; rfl
      have hd1 : d = 1 ∨ d = -1 := by rw [← hd]; cases bt <;> simp
      have Hdn := Lib.hid hdn; have Hbit := Lib.hid hbit; have Hd := Lib.hid hd
      clear hcell0 hbw hrow hfl hdn hd
      have hbit2 : bits .and .i64 ((set : Int) / 2 ^ i) 1 = if bt then 1 else 0 := Hbit.out
      generalize (if bt then (1 : Int) else 0) = bz at *
      have hbz : 1 - 2 * bz = d := Hd.out
      have hbz0 : 0 ≤ bz ∧ bz ≤ 1 := by omega
      obtain ⟨hbz0, hbz1⟩ := hbz0
      clear Hbit
      go_wp2
      clear hbz hbit2 hbz0 hbz1
      go_loopw [10, 28] (fun _ jv wr => ∃ j : Nat, j ≤ r.length ∧ jv = .int .i64 j ∧ Hid (Below N w wr) ∧ Hid (Blk wr N 54 (intCells (Glue.signRow (Glue.upTo (Glue.tur set L) i j))).toArray)) (fun _ jv _ => r.length - (intOf jv).toNat)
      case atStart => exact ⟨0, by omega, rfl, hb, hk⟩
      case round =>
        clear hb hk
        obtain ⟨j, hj, rfl, hb, hk⟩ := hrel
        by_cases hjt : j < r.length
        · obtain ⟨y, hy⟩ := get_some hjt
          obtain ⟨b', o', rfl, hbw', hcell'⟩ := intCells_get? (Hrow.out.below (by rw [HN.out]; exact hb.out)) hy
          have hLy := Hwi.out.1 y (get_mem hy)
          have hsn := Hdn.out y hLy
          have hst := Glue.upTo_step (Glue.tur_get (set := set) Hr.out) (Glue.turRow_get (set := set) (p := i) hy)
          have hput := sign_cells (Glue.signRow (Glue.upTo (Glue.tur set L) i j)) (Glue.flip set i y) _ hsn
          rw [← Glue.signRow_snoc, ← hst, Glue.flip_abs] at hput
          have hbd := Glue.sg_bound (Glue.upTo (Glue.tur set L) i j) y.natAbs
          have hl1 := Glue.upTo_len j (Glue.tur_get (set := set) Hr.out)
          have hl4 : (Glue.tur set L).flatten.length ≤ 20 := by rw [← sumLen_flat, Glue.tur_sum]; exact Hsm.out
          obtain ⟨hy0, hy1, hy2⟩ := hLy
          have hya : y.natAbs < 9 := by omega
          rw [← Glue.signRow_get _ _ hya] at hbd
          have hcx := ints_cell hk.out (j := y.natAbs) (by rw [Glue.signRow_len]; exact hya)
          have hfz := hk.out.frozen y.natAbs
          generalize (Glue.signRow (Glue.upTo (Glue.tur set L) i j)).getD y.natAbs 0 = s at *
          have hsb0 : -20 ≤ s := by omega
          have hsb1 : s ≤ 20 := by omega
          have habs := fun W => impl_edgeOf y W (by omega) (by omega)
          have Hput := Lib.hid hput; have Habs := Lib.hid habs
          clear hput habs hst hsn hbd hl1 hl4 hbw' hy
          by_cases hneg : y < 0
          · have hp := Hput.out
            rw [if_pos hneg] at hp
            have Hp := Lib.hid hp
            generalize hxa : y.natAbs = xa at *
            have hxb : (xa : Int) < 9 := by omega
            have hxc : (0 : Int) ≤ (xa : Int) := by omega
            clear hp Hput hxa
            rcases hd1 with rfl | rfl
            · go_wp2_with fail
              refine (Habs.out _).mono ?_
              rintro e w1 ⟨rfl, rfl⟩
              go_wp2
              go_roundw
              case rel =>
                refine ⟨j + 1, by omega, by go_num, Lib.hid (hb.out.setCell (show N ≤ N by omega) _), Lib.hid ?_⟩
                have h := hk.out.put xa (.int .i64 (s + -1))
                rw [Hp.out] at h
                exact h
              case measure => simp [intOf]; omega
            · go_wp2_with fail
              refine (Habs.out _).mono ?_
              rintro e w1 ⟨rfl, rfl⟩
              go_wp2
              go_roundw
              case rel =>
                refine ⟨j + 1, by omega, by go_num, Lib.hid (hb.out.setCell (show N ≤ N by omega) _), Lib.hid ?_⟩
                have h := hk.out.put xa (.int .i64 (s + 1))
                rw [show s + 1 = s + -(-1) from rfl, Hp.out] at h
                exact h
              case measure => simp [intOf]; omega
          · have hp := Hput.out
            rw [if_neg hneg] at hp
            obtain ⟨xa, rfl⟩ : ∃ xa : Nat, y = (xa : Int) := ⟨y.natAbs, by omega⟩
            rw [Int.natAbs_natCast] at hp hcx hfz hya
            have Hp := Lib.hid hp
            have hxb : (xa : Int) < 9 := by omega
            have hxc : (0 : Int) ≤ (xa : Int) := by omega
            clear hp Hput Habs
            have hsd : -21 ≤ s + d ∧ s + d ≤ 21 := by omega
            obtain ⟨hsd0, hsd1⟩ := hsd
            go_wp2
            go_roundw
            case rel =>
              refine ⟨j + 1, by omega, by go_num, Lib.hid (hb.out.setCell (show N ≤ N by omega) _), Lib.hid ?_⟩
              have h := hk.out.put xa (.int .i64 (s + d))
              rw [Hp.out] at h
              exact h
            case measure => simp [intOf]; omega
        · obtain rfl : j = r.length := by omega
          have hn1 := Glue.upTo_next (Glue.tur_get (set := set) Hr.out)
          rw [Glue.turRow_len] at hn1
          rw [hn1] at hk
          clear hn1
          go_wp2
          go_roundw
          case rel => exact ⟨i + 1, by omega, by go_num, hb, hk⟩
          case measure => simp [intOf]; omega
    · obtain rfl : i = L.length := by omega
      have ht : Glue.upTo (Glue.tur set L) L.length 0 = (Glue.tur set L).flatten := by
        have := Glue.upTo_all (Glue.tur set L)
        rwa [Glue.tur_len] at this
      rw [ht] at hk
      have hsl := Glue.signRow_len (Glue.tur set L).flatten
      have hv := Hv.out
      unfold Glue.Fails at hv
      generalize Glue.signRow (Glue.tur set L).flatten = SR at *
      have Hv2 := Lib.hid hv; have Hsl := Lib.hid hsl
      clear hv hsl ht
      generalize Glue.uses L = U at *
      go_wp2_with fail
      refine (HU.out wr (Ha.out.below (by rw [HN.out]; exact hb.out))).mono ?_
      rintro e w2 ⟨rfl, hb2⟩
      have Hb2 := Lib.hid (hb.out.trans (hb2.mono (by have := hb.out.size; rw [HN.out] at this; exact this)))
      have Hk2 := Lib.hid (hk.out.below hb2 hk.out.lt)
      clear hb2 hb hk
      go_wp2
      go_loopw [11, 12, 51] (fun _ _ kv w3 => ∃ k : Nat, k ≤ 9 ∧ kv = .int .i64 k ∧ w3 = w2 ∧ Hid (∀ x, x < k → ¬ (U.getD x 0 = 2 ∧ SR.getD x 0 ≠ 0))) (fun _ _ kv _ => 9 - (intOf kv).toNat)
      case atStart => exact ⟨0, by omega, rfl, rfl, Lib.hid (fun _ h => by omega)⟩
      case round =>
        obtain ⟨k, hk9, rfl, rfl, hno⟩ := hrel
        by_cases hkt : k < 9
        · have hix := Hix.out k hkt
          have hcx := ints_cell Hk2.out (j := k) (by rw [Hsl.out]; exact hkt)
          have hbad : U.getD k 0 = 2 → SR.getD k 0 ≠ 0 → v = false := fun h1 h2 => by
            rw [Bool.eq_false_iff]
            intro hh
            exact Hv2.out.1 hh k hkt ⟨h1, h2⟩
          have hnext : ¬ (U.getD k 0 = 2 ∧ SR.getD k 0 ≠ 0) → ∀ x, x < k + 1 → ¬ (U.getD x 0 = 2 ∧ SR.getD x 0 ≠ 0) := fun h x hx => by
            rcases Nat.lt_or_ge x k with h2 | h2
            · exact hno.out x h2
            · obtain rfl : x = k := by omega
              exact h
          have hkc : (k : Int) < 9 := by omega
          have hk0 : (0 : Int) ≤ (k : Int) := by omega
          generalize U.getD k 0 = n at *
          generalize SR.getD k 0 = s at *
          have Hbad := Lib.hid hbad; have Hnext := Lib.hid hnext
          clear hbad hnext hno
          by_cases hn2 : n = 2
          · by_cases hs0 : s = 0
            · subst hn2; subst hs0
              have hnx := Lib.hid (Hnext.out (by simp))
              go_wp2
              go_roundw
              case rel => exact ⟨k + 1, by omega, by go_num, trivial, hnx⟩
              case measure => simp [intOf]; omega
            · subst hn2
              have hvf := Lib.hid (Hbad.out rfl hs0)
              have hsb : (s != 0) = true := by simp [hs0]
              clear hs0
              go_wp2
              go_ret
              exact ⟨by rw [hvf.out]; rfl, Hb2.out⟩
          · have hnx := Lib.hid (Hnext.out (fun h => hn2 h.1))
            have hnb : (n == 2) = false := by simp [hn2]
            clear hn2
            go_wp2
            go_roundw
            case rel => exact ⟨k + 1, by omega, by go_num, trivial, hnx⟩
            case measure => simp [intOf]; omega
        · obtain rfl : k = 9 := by omega
          have hvt := Lib.hid (Hv2.out.2 hno.out)
          go_wp2
          go_ret
          exact ⟨by rw [hvt.out]; rfl, Hb2.out⟩

set_option maxRecDepth 10000 in
set_option maxHeartbeats 2000000 in
theorem impl_IsTwoSided (a : Option Addr) (c : Nat) (L : List (List Int)) (w : World) (ha : GridAt w a L) (hl : tot L ≤ 1048576) :
    Calls Tryd.prog 34 #[.slice a L.length c] w fun e w' => e = .returned (.bool (Glue.twoB L)) ∧ Below w.heap.size w w' := by
  have hv := Glue.twoB_iff L
  generalize Glue.twoB L = v at *
  have Hv := Lib.hid hv; clear hv
  have hG := impl_IsGluing a c L w ha hl
  have Ha := Lib.hid ha
  by_cases hg : Glue.IsG L
  · rw [decide_eq_true hg] at hG
    have hS := fun set W (h : GridAt W a L) hset => impl_sidesCancel a c L set W h hg hset
    have hl4 := hg.2.1
    have HG := Lib.hid hG; have Hg := Lib.hid hg; have HS := Lib.hid hS
    obtain ⟨M, hM⟩ : ∃ M, M = 2 ^ L.length := ⟨_, rfl⟩
    have hM16 : M ≤ 16 := by rw [hM]; exact Nat.pow_le_pow_right (n := 2) (by omega) hl4
    have hpi : (2 : Int) ^ L.length = ((M : Nat) : Int) := by rw [hM, Int.natCast_pow]; rfl
    have HM := Lib.hid hM
    clear hM hG hg ha hS
    go_enter Tryd.func34, Tryd.ntmps34
    go_wp2_with fail
    refine HG.out.mono ?_
    rintro e w1 ⟨rfl, hb1⟩
    have Hb1 := Lib.hid hb1
    clear hb1
    go_wp2
    go_loopw [3, 10] (fun _ sv wr => ∃ s : Nat, s ≤ M ∧ sv = .int .i64 s ∧ Hid (Below w.heap.size w wr) ∧ Hid (∀ t, t < s → ¬ Glue.Cancels L t)) (fun _ sv _ => M - (intOf sv).toNat)
    case atStart => exact ⟨0, by omega, rfl, Hb1, Lib.hid (fun _ h => by omega)⟩
    case round =>
      obtain ⟨s, hs, rfl, hb, hno⟩ := hrel
      by_cases hst : s < M
      · have hsi : (s : Int) < (M : Int) := by omega
        have hc := HS.out s wr (Ha.out.below hb.out) (by omega)
        have hci := Glue.cancelB_iff L s
        generalize Glue.cancelB L s = f at *
        have Hc := Lib.hid hc; have Hci := Lib.hid hci
        clear hc hci
        cases f
        · have hn : Hid (∀ t, t < s + 1 → ¬ Glue.Cancels L t) := Lib.hid (fun t ht => by
            rcases Nat.lt_or_ge t s with h | h
            · exact hno.out t h
            · obtain rfl : t = s := by omega
              intro hc; have := Hci.out.2 hc; cases this)
          go_wp2_with fail
          refine Hc.out.mono ?_
          rintro e w2 ⟨rfl, hb2⟩
          have Hb2 := Lib.hid (hb.out.trans (hb2.mono hb.out.size))
          clear hb2
          go_wp2
          go_roundw
          case rel => exact ⟨s + 1, by omega, by go_num, Hb2, hn⟩
          case measure => simp [intOf]; omega
        · have hvt := Lib.hid (Hv.out.2 ⟨Hg.out, s, by rw [← HM.out]; exact hst, Hci.out.1 rfl⟩)
          go_wp2_with fail
          refine Hc.out.mono ?_
          rintro e w2 ⟨rfl, hb2⟩
          have Hb2 := Lib.hid (hb.out.trans (hb2.mono hb.out.size))
          clear hb2
          go_wp2
          go_ret
          exact ⟨by rw [hvt.out]; rfl, Hb2.out⟩
      · have hsi : ¬ ((s : Int) < (M : Int)) := by omega
        have hvf : v = false := by
          rw [Bool.eq_false_iff]
          intro h
          obtain ⟨_, t, ht, hc⟩ := Hv.out.1 h
          exact absurd hc (hno.out t (by rw [← HM.out] at ht; omega))
        have Hf := Lib.hid hvf; clear hvf
        go_wp2
        go_ret
        exact ⟨by rw [Hf.out]; rfl, hb.out⟩
  · rw [decide_eq_false hg] at hG
    have HG := Lib.hid hG; have Hg := Lib.hid hg
    clear hG hg ha
    have hvf : v = false := by
      rw [Bool.eq_false_iff]
      intro h
      exact Hg.out (Hv.out.1 h).1
    have Hf := Lib.hid hvf; clear hvf
    go_enter Tryd.func34, Tryd.ntmps34
    go_wp2_with fail
    refine HG.out.mono ?_
    rintro e w1 ⟨rfl, hb1⟩
    go_wp2
    go_ret
    exact ⟨by rw [Hf.out]; rfl, hb1⟩
end Go.Proofs.YtpgdmbolckogcaaDoor
