/-
  Corners of polygons, and their classes: what the document says, and the walks of the program's cornerClasses and the model's l3Ends.
-/
import Derived.Test.YtodgongemoabiaaBase
import Derived.Test.YtodgongemoabiaaSlice
import Derived.Test.YtodgongemoabiaaInts
import Derived.Test.YtodgongemoabiaaWord
import Derived.Test.YtodgongemoabiaaGrid
import Derived.Test.YtodgongemoabiaaGlue
import Derived.Test.YtodgongemoabiaaUses
import Derived.Test.YtodgongemoabiaaClass
import Derived.Test.YtodgongemoabiaaOwn
import Derived.Test.YtodgongemoabiaaLab
import Derived.Deep.QuietTactic
import Derived.BigQuiet
namespace Go.Proofs.Ytodgongemoabiaa
open Go.RowKit

namespace Glue
/-- The beginning of a side, the end of one: numbers of the ends of letters. -/
def begN (x : Int) : Nat := if x < 0 then 2 * x.natAbs + 1 else 2 * x.natAbs
def endN (x : Int) : Nat := begN (-x)
theorem begN_lt {x : Int} (h : Word.Letter x) : begN x < 18 := by obtain ⟨h0, h1, h2⟩ := h; unfold begN; split <;> omega
theorem letter_neg {x : Int} (h : Word.Letter x) : Word.Letter (-x) := by obtain ⟨h0, h1, h2⟩ := h; exact ⟨by omega, by omega, by omega⟩
theorem endN_lt {x : Int} (h : Word.Letter x) : endN x < 18 := begN_lt (letter_neg h)
/-- The corner behind the side j of a polygon: the end of that side, the beginning of the next. -/
def corner (r : List Int) (j : Nat) : Nat × Nat := (endN (r.getD j 0), begN (r.getD ((j + 1) % r.length) 0))
def corners (L : List (List Int)) : List (Nat × Nat) := metAll corner L
/-- The classes of corners, by the ends of letters at them. -/
def cor (L : List (List Int)) : Nat → Nat := Cls.mergeAll (corners L)
theorem corner_at {r : List Int} {j : Nat} {x y : Int} (hx : r[j]? = some x) (hy : r[(j + 1) % r.length]? = some y) : corner r j = (endN x, begN y) := by
  unfold corner
  rw [List.getD_eq_getElem?_getD, hx, List.getD_eq_getElem?_getD, hy]; rfl
theorem corner_lt {r : List Int} (h : Word.IsW r) {j : Nat} (hj : j < r.length) : (corner r j).1 < 18 ∧ (corner r j).2 < 18 := by
  have h2 : (j + 1) % r.length < r.length := Nat.mod_lt _ (by omega)
  rw [corner_at (List.getElem?_eq_getElem hj) (List.getElem?_eq_getElem h2)]
  exact ⟨endN_lt (h.at hj), begN_lt (h.at h2)⟩
theorem corners_lt {L : List (List Int)} (h : ∀ p ∈ L, Word.IsW p) : ∀ p ∈ corners L, p.1 < 18 ∧ p.2 < 18 := by
  intro p hp
  obtain ⟨r, hr, j, hj, rfl⟩ := met_mem hp
  exact corner_lt (h r hr) hj
theorem cor_ok {L : List (List Int)} (h : ∀ p ∈ L, Word.IsW p) : Cls.Ok (cor L) 18 := Cls.Ok.all (corners_lt h)
end Glue

theorem mod_cast' (a n : Nat) : ((a : Nat) : Int) % (n : Int) = ((a % n : Nat) : Int) := (Int.natCast_emod a n).symm
theorem tmod_cast' (a n : Nat) : Int.tmod ((a : Nat) : Int) (n : Int) = ((a % n : Nat) : Int) := by
  rw [Int.tmod_eq_emod_of_nonneg (by omega)]; exact mod_cast' a n



set_option maxRecDepth 10000 in
theorem spec_l1Bit (b : Bool) (w : World) : Calls Try.prog 77 #[.bool b] w fun e w' => e = .returned (.int .i64 (if b then 1 else 0)) ∧ w' = w := by
  cases b
  · go_enter Try.func77, Try.ntmps77
    go_wp2
    go_ret
    exact ⟨rfl, rfl⟩
  · go_enter Try.func77, Try.ntmps77
    go_wp2
    go_ret
    exact ⟨rfl, rfl⟩

/-- A row of the call's own, as the block that holds its numbers. -/
theorem own_lab {w : World} {base n : Nat} {v : Value} {ms : List Nat} (h : w.ownsRow base 3 1 v n (intCells (intsOf ms))) (hn : ms.length = n) (h0 : 0 < n) :
    ∃ g cap, v = .slice (some ⟨g, 0, none⟩) n cap ∧ base ≤ g ∧ n ≤ cap ∧ Lab w g (fun k => ms.getD k 0) n := by
  rcases h.2 with ⟨_, h2⟩ | ⟨g, cap, cur, rfl, hg, hh, hle, hm, hc, ht⟩
  · omega
  · refine ⟨g, cap, rfl, hg, hle, cur, hh, fun k hk => ?_⟩
    have e : (intCells (intsOf ms))[k]? = some (.int .i64 ((ms.getD k 0 : Nat) : Int)) := by
      have hk' : k < ms.length := by omega
      simp [intCells, intsOf, hk', List.getD_eq_getElem?_getD]
    rw [← ht, List.getElem?_take] at e
    split at e
    · simpa using e
    · cases e

theorem own_lab2 {w : World} {base n : Nat} {v : Value} {ms : List Nat} (h : w.ownsRow base 3 1 v n (intCells (intsOf ms))) (hn : ms.length = n) (h0 : v ≠ .slice none 0 0) :
    ∃ g cap, v = .slice (some ⟨g, 0, none⟩) n cap ∧ base ≤ g ∧ n ≤ cap ∧ Lab w g (fun k => ms.getD k 0) n := by
  rcases h.2 with ⟨h2, _⟩ | ⟨g, cap, cur, rfl, hg, hh, hle, hm, hc, ht⟩
  · exact absurd h2 h0
  · refine ⟨g, cap, rfl, hg, hle, cur, hh, fun k hk => ?_⟩
    have e : (intCells (intsOf ms))[k]? = some (.int .i64 ((ms.getD k 0 : Nat) : Int)) := by
      have hk' : k < ms.length := by omega
      simp [intCells, intsOf, hk', List.getD_eq_getElem?_getD]
    rw [← ht, List.getElem?_take] at e
    split at e
    · simpa using e
    · cases e

set_option maxRecDepth 10000 in
set_option maxHeartbeats 2000000 in
theorem spec_l3Ends (a : Option Addr) (c : Nat) (L : List (List Int)) (w : World) (ha : GridAt w a L) (hw : ∀ p ∈ L, Word.IsW p) (hn : L.length ≤ 1000) :
    Calls Try.prog 112 #[.slice a L.length c] w fun e w' => ∃ g cap, e = .returned (.slice (some ⟨g, 0, none⟩) 18 cap) ∧ w.heap.size ≤ g ∧ (∃ u d, Lab w' g u 18 ∧ Cls.Up u (Glue.cor L) d 18) ∧ Below w.heap.size w w' := by
  obtain ⟨i0, hi0, hz0, hz1, hz2⟩ := info_int_parts
  have Hi0 := Lib.hid hi0; have Hz0 := Lib.hid hz0; have Hz1 := Lib.hid hz1; have Hz2 := Lib.hid hz2
  have Ha := Lib.hid ha; have Hw := Lib.hid hw
  clear hi0 hz0 hz1 hz2 ha hw
  generalize hN : w.heap.size = N at *
  have HN := Lib.hid hN
  go_enter Try.func112, Try.ntmps112
  go_wp2
  go_loopw [3, 4] (fun ov iv wr => ∃ i : Nat, i ≤ 18 ∧ iv = .int .i64 i ∧ Below N w wr ∧ wr.ownsRow N 3 1 ov i (intCells (intsOf (List.range i)))) (fun _ iv _ => 18 - (intOf iv).toNat)
  case atStart => exact ⟨0, by omega, rfl, by have h := (Below.refl w.heap.size w).alloc (Nat.le_refl _) (.cells #[] 3); rw [HN.out] at h; exact h, by have h := own_made HN.out; rw [HN.out] at h; exact h⟩
  case round =>
    obtain ⟨i, hi, rfl, hb, hown⟩ := hrel
    by_cases hlt : i ≤ 17
    · have hNle : N ≤ wr.heap.size := by have := hb.size; rw [HN.out] at this; exact this
      have hst : List.range (i + 1) = List.range i ++ [i] := List.range_succ
      have Hst := Lib.hid hst
      obtain ⟨av, cv, rfl⟩ := own_len hown
      have hm1 : i + 1 ≤ maxLen := by unfold maxLen; omega
      have hm2 : (i + 1) * 8 ≤ 140737488355328 := by omega
      have hic : (i : Int) ≤ 17 := by omega
      generalize List.range i = X at *
      generalize hY : List.range (i + 1) = Y at *
      have HY := Lib.hid hY
      clear hY hst
      go_wp2_with (at_builtin; refine append_one rfl (.tmp 16) (.tmp 18) 42 rfl N 3 i0 _ 8 Try.underlying42 Hi0.out Hz0.out Hz1.out Hz2.out (by rfl) _ _ _ rfl hown (by rfl) _ rfl hm1 hm2 hNle ?_; intro v1 w1 hown1 hg1 _)
      go_roundw
      case rel =>
        refine ⟨i + 1, by omega, by go_num, Below.grown (hb.alloc hNle _) hg1 (by simp; omega) (fun k hk => (hown.lt k hk).1), ?_⟩
        rw [HY.out, Hst.out, intsOf_snoc, ← intCells_snoc]; exact hown1
      case measure => simp [intOf]; omega
    · obtain rfl : i = 18 := by omega
      rw [show (((18 : Nat)) : Int) = 18 from rfl]
      obtain ⟨g, cap, rfl, hgN, hcap, hlab⟩ := own_lab hown (by simp) (by omega)
      have hlab0 : Lab wr g id 18 := hlab.congr (fun k hk => by simp [List.getD_eq_getElem?_getD, hk])
      have Hlab := Lib.hid hlab0; have HgN := Lib.hid hgN; have Hb := Lib.hid hb
      clear hlab hlab0 hown hgN hb
      go_wp2
      go_loopw [5, 6, 7, 8, 9, 10] (fun iv _ _ _ _ _ wr => ∃ i : Nat, i ≤ L.length ∧ iv = .int .i64 i ∧ Below N w wr ∧ Hid (∃ u d, Lab wr g u 18 ∧ Cls.Up u (Cls.mergeAll (met Glue.corner L i 0)) d 18)) (fun iv _ _ _ _ _ _ => L.length - (intOf iv).toNat)
      case atStart => exact ⟨0, by omega, rfl, Hb.out, Lib.hid ⟨id, _, Hlab.out, by rw [met_zero]; exact Cls.Up.start 18⟩⟩
      case round =>
        obtain ⟨i, hi, rfl, hb, hk⟩ := hrel
        by_cases hlt : i < L.length
        · obtain ⟨r, hr⟩ := get_some hlt
          have Hr := Lib.hid hr
          have hwi := Hw.out r (get_mem hr)
          have hll : r.length ≤ 24 := hwi.2
          have Hwi := Lib.hid hwi
          have Hb2 := Lib.hid hb
          clear hr hwi hb
          go_wp2
          go_loopw [6, 7, 8, 9, 10] (fun jv _ _ _ _ w2 => ∃ j : Nat, j ≤ r.length ∧ jv = .int .i64 j ∧ Hid (Below N w w2) ∧ Hid (∃ u d, Lab w2 g u 18 ∧ Cls.Up u (Cls.mergeAll (met Glue.corner L i j)) d 18)) (fun jv _ _ _ _ _ => r.length - (intOf jv).toNat)
          case atStart => exact ⟨0, by omega, rfl, Hb2, hk⟩
          case round =>
            clear hk
            obtain ⟨j, hj, rfl, hb, hk⟩ := hrel
            obtain ⟨b, o, ai, ci, rfl, hbw, hcell, hrow⟩ := (Ha.out.below (by rw [HN.out]; exact hb.out)).get Hr.out
            by_cases hjt : j < r.length
            · obtain ⟨x, hx⟩ := get_some hjt
              have hmod : (j + 1) % r.length < r.length := Nat.mod_lt _ (by omega)
              obtain ⟨y, hy⟩ := get_some hmod
              obtain ⟨b', o', rfl, hbw', hcell'⟩ := intCells_get? hrow hx
              obtain ⟨b'', o'', e2, _, hcell''⟩ := intCells_get? hrow hy
              cases e2
              obtain ⟨u, d, hlab, hup⟩ := hk.out
              have hstep := met_step (f := Glue.corner) j Hr.out
              rw [Glue.corner_at hx hy] at hstep
              have hLx := Hwi.out.1 x (get_mem hx)
              have hLy := Hwi.out.1 y (get_mem hy)
              have hex := Glue.endN_lt hLx
              have hby := Glue.begN_lt hLy
              obtain ⟨hx0, hx1, hx2⟩ := hLx
              obtain ⟨hy0, hy1, hy2⟩ := hLy
              have hm0 : 0 ≤ ((j : Int) + 1) % (r.length : Int) := Int.emod_nonneg _ (by omega)
              have hm1 : ((j : Int) + 1) % (r.length : Int) < (r.length : Int) := Int.emod_lt_of_pos _ (by omega)
              have hrl : ¬ ((r.length : Int) = 0) := by omega
              have h0i : (0 : Int) ≤ (i : Int) := by omega
              have h1i : (i : Int) < (L.length : Int) := by omega
              have h0j : (0 : Int) ≤ (j : Int) := by omega
              have h1j : (j : Int) < (r.length : Int) := by omega
              -- the numbers of the two ends
              have hax := fun W => spec_l3Abs x W (by omega) (by omega)
              have hay := fun W => spec_l3Abs y W (by omega) (by omega)
              have Hax := Lib.hid hax; have Hay := Lib.hid hay
              obtain ⟨bx, hbx⟩ : ∃ bx, decide (0 < x) = bx := ⟨_, rfl⟩
              obtain ⟨bY, hbY⟩ : ∃ bY, decide (y < 0) = bY := ⟨_, rfl⟩
              have hnx : 2 * (x.natAbs : Int) + (if bx then 1 else 0) = ((Glue.endN x : Nat) : Int) := by
                subst hbx; unfold Glue.endN Glue.begN
                by_cases h : 0 < x
                · have h' : -x < 0 := by omega
                  simp only [h, h', decide_true, if_true]; omega
                · have h' : ¬ -x < 0 := by omega
                  simp only [h, h', decide_false, if_false, Bool.false_eq_true]; omega
              have hny : 2 * (y.natAbs : Int) + (if bY then 1 else 0) = ((Glue.begN y : Nat) : Int) := by
                subst hbY; unfold Glue.begN
                by_cases h : y < 0
                · simp only [h, decide_true, if_true]; omega
                · simp only [h, decide_false, if_false, Bool.false_eq_true]; omega
              have hbitx := fun W => spec_l1Bit bx W
              have hbity := fun W => spec_l1Bit bY W
              have hrx : 0 ≤ (if bx then (1 : Int) else 0) ∧ (if bx then (1 : Int) else 0) ≤ 1 := by cases bx <;> simp
              have hry : 0 ≤ (if bY then (1 : Int) else 0) ∧ (if bY then (1 : Int) else 0) ≤ 1 := by cases bY <;> simp
              generalize (if bx then (1 : Int) else 0) = tx at *
              generalize (if bY then (1 : Int) else 0) = ty at *
              have hxa : x.natAbs < 9 := by omega
              have hya : y.natAbs < 9 := by omega
              have Hnx := Lib.hid hnx; have Hny := Lib.hid hny; have Hbitx := Lib.hid hbitx; have Hbity := Lib.hid hbity
              clear hax hay hnx hny hbitx hbity
              generalize x.natAbs = xa at *
              generalize y.natAbs = ya at *
              obtain ⟨hrx0, hrx1⟩ := hrx
              obtain ⟨hry0, hry1⟩ := hry
              have hlk := hup.link (p := (Glue.endN x, Glue.begN y)) hex hby
              rw [← Cls.mergeAll_snoc, ← hstep] at hlk
              have hfx := fun z hz W h => spec_l3Find (some ⟨g, 0, none⟩) cap 18 u _ d (Glue.endN x) z hz W h hup hex (by omega)
              have hfy := fun z hz W h => spec_l3Find (some ⟨g, 0, none⟩) cap 18 u _ d (Glue.begN y) z hz W h hup hby (by omega)
              have hca := hup.ok.lt _ hex
              generalize Cls.mergeAll (met Glue.corner L i j) (Glue.endN x) = ra at *
              generalize Cls.mergeAll (met Glue.corner L i j) (Glue.begN y) = rb at *
              have Hfx := Lib.hid hfx; have Hfy := Lib.hid hfy; have Hlk := Lib.hid hlk; have Hrow := Lib.hid hlab
              clear hfx hfy hlk hup hstep hrow hx hy hex hby hbw' hmod hlab hx0 hx1 hx2 hy0 hy1 hy2
              go_wp2
              go_quiet (fail)
              have Hbq := Lib.hid (below_drewN hb.out nq)
              have Hrq := Lib.hid (Hrow.out.drewN nq)
              generalize wr.drewN nq = W0 at *
              clear hcell hcell' hcell''
              go_wp2_with fail
              refine (Hax.out _).mono ?_
              rintro e w2 ⟨rfl, rfl⟩
              go_wp2_with fail
              refine (Hbitx.out _).mono ?_
              rintro e w2 ⟨rfl, rfl⟩
              go_wp2_with fail
              refine (Hfx.out _ Hnx.out _ Hrq.out.row).mono ?_
              rintro e w2 ⟨rfl, rfl⟩
              go_wp2_with fail
              refine (Hay.out _).mono ?_
              rintro e w2 ⟨rfl, rfl⟩
              go_wp2_with fail
              refine (Hbity.out _).mono ?_
              rintro e w2 ⟨rfl, rfl⟩
              go_wp2_with fail
              refine (Hfy.out _ Hny.out _ Hrq.out.row).mono ?_
              rintro e w2 ⟨rfl, rfl⟩
              have hdst := Hrq.out.cell hca
              have hfz := Hrq.out.frozen ra
              have hput := Hrq.out.put (b := rb) hca
              have Hput := Lib.hid hput
              have hc0 : (0 : Int) ≤ (ra : Int) := by omega
              have hc1 : (ra : Int) < 18 := by omega
              clear hput
              go_wp2
              go_roundw
              case rel => exact ⟨j + 1, by omega, by go_num, Lib.hid (Hbq.out.setCell HgN.out _), Lib.hid ⟨_, _, Hput.out, Hlk.out⟩⟩
              case measure => simp [intOf]; omega
            · obtain rfl : j = r.length := by omega
              rw [met_next Hr.out] at hk
              go_wp2
              go_roundw
              case rel => exact ⟨i + 1, by omega, by go_num, hb.out, hk⟩
              case measure => simp [intOf]; omega
        · obtain rfl : i = L.length := by omega
          rw [met_end] at hk
          go_wp2
          go_ret
          exact ⟨g, cap, rfl, HgN.out, hk.out, hb⟩
end Go.Proofs.Ytodgongemoabiaa
