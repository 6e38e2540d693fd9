/-
  The walk of the model's StandardGluing.
-/
import Derived.Test.YtodgongemoabiaaDoorBase
import Derived.Test.YtodgongemoabiaaDoorSlice
import Derived.Test.YtodgongemoabiaaDoorIntRow
import Derived.Test.YtodgongemoabiaaDoorInts
import Derived.Test.YtodgongemoabiaaDoorOwn
import Derived.Test.YtodgongemoabiaaDoorWord
import Derived.Test.YtodgongemoabiaaDoorGrid
import Derived.Test.YtodgongemoabiaaDoorGridRows
import Derived.Test.YtodgongemoabiaaDoorGlue
import Derived.Test.YtodgongemoabiaaDoorIsGluing
import Derived.Test.YtodgongemoabiaaDoorSurf
import Derived.Test.YtodgongemoabiaaDoorSurfI
import Derived.Test.YtodgongemoabiaaDoorSurfSum
import Derived.Test.YtodgongemoabiaaDoorStd
import Derived.Test.YtodgongemoabiaaDoorStd2
import Derived.Laws.Rows
namespace Go.Proofs.YtodgongemoabiaaDoor
open Go.RowKit

set_option maxRecDepth 10000 in
set_option maxHeartbeats 4000000 in
theorem spec_StandardGluing_ok (h c b : Nat) (w : World) (hs : Surf.Is (h : Int) (c : Int) (b : Int)) (h8 : 2 * h + c + 2 * b ≤ 8) :
    Calls Tryd.prog 7 #[.agg #[.int .i64 (h : Int), .int .i64 (c : Int), .int .i64 (b : Int)]] w fun e w' => GivesRows2 w [Surf.side h c b] true e w' := by
  have hI := fun W => spec_IsSurface (h : Int) (c : Int) (b : Int) W (fun n hn => by
    simp only [List.mem_cons, List.not_mem_nil, or_false] at hn
    rcases hn with rfl | rfl | rfl <;> omega)
  rw [decide_eq_true hs] at hI
  have HI := Lib.hid hI; clear hI hs
  have hh8 : h ≤ 8 := by omega
  have hc8 : c ≤ 8 := by omega
  have hb8 : b ≤ 8 := by omega
  have d8 : decide (8 < 2 * (h : Int) + (c : Int) + 2 * (b : Int)) = false := decide_eq_false (by omega)
  obtain ⟨i0, hi0, hz0, hz1, hz2⟩ := info_int_parts
  have Hi0 := Lib.hid hi0; have Hz0 := Lib.hid hz0; have Hz1 := Lib.hid hz1; have Hz2 := Lib.hid hz2
  clear hi0 hz0 hz1 hz2
  generalize hN : w.heap.size = N at *
  have HN := Lib.hid hN
  clear h8
  go_enter Tryd.func7, Tryd.ntmps7
  go_wp2_with fail
  refine (HI.out _).mono ?_
  rintro e w1 ⟨rfl, hb1⟩
  obtain ⟨hA1, hl1⟩ := Blk.of1 HN.out hb1 (by have := HN.out; simp; omega)
  have Hl1 := Lib.hid hl1; have HA1 := Lib.hid hA1
  obtain ⟨_, _, _, _, _, _⟩ := hA1.six
  clear hb1 hA1 hl1
  go_wp2
  go_loopw [4, 5, 6] (fun ov xv iv wr => ∃ i : Nat, ∃ X : Int, i ≤ h ∧ iv = .int .i64 (i : Int) ∧ xv = .int .i64 X ∧ X = 1 + 2 * (i : Int) ∧ Below N w wr ∧ Blk wr N 25 #[.int .i64 (h : Int), .int .i64 (c : Int), .int .i64 (b : Int)] ∧ wr.ownsRow (N + 1) 3 1 ov (4 * i) (intCells (Surf.hs i))) (fun _ _ iv _ => (h - intOf iv).toNat)
  case atStart => exact ⟨0, 1, Nat.zero_le _, rfl, rfl, rfl, Hl1.out.alloc (Nat.le_of_lt HA1.out.lt) _, HA1.out.alloc _, own_mono (own_made rfl) HA1.out.lt⟩
  case round =>
    obtain ⟨i, X, hi, rfl, rfl, hX, hb, hbox, hown⟩ := hrel
    have hNle : N + 1 ≤ wr.heap.size := hbox.lt
    obtain ⟨_, _, _, _, _, _⟩ := hbox.six
    have Hbox := Lib.hid hbox; clear hbox
    by_cases hlt : i < h
    · have Hst := Lib.hid (Surf.hs_snoc i)
      have dlt : decide ((i : Int) < (h : Int)) = true := decide_eq_true (by omega)
      have hx0 : 1 ≤ X := by omega
      have hx1 : X ≤ 1000 := by omega
      have HX := Lib.hid hX
      have Hb := Lib.hid hb; have Hlt := Lib.hid hlt; clear hb hlt
      have hc1 : (4 * i) + 4 ≤ maxLen := by unfold maxLen; omega
      have hc2 : ((4 * i) + 4) * 8 ≤ 140737488355328 := by omega
      have Hln := Lib.hid (show (4 * i) + 4 = (4 * (i + 1)) by omega)
      clear hX
      obtain ⟨av, cv, rfl⟩ := own_len hown
      go_wp2_with (at_builtin; refine append_lits [.int .i64 X, .int .i64 (X + 1), .int .i64 (-X), .int .i64 (-X - 1)] 4 rfl rfl (.tmp 33) (.tmp 42) 46 rfl (N + 1) 3 i0 _ 8 Tryd.underlying46 Hi0.out Hz0.out Hz1.out Hz2.out (by rfl) _ _ _ rfl hown (ints_one [X, X + 1, -X, -X - 1]) _ rfl hc1 hc2 hNle ?_; intro v1 w1 hown1 hg1)
      go_roundw
      case rel =>
        refine ⟨i + 1, X + 2, by have := Hlt.out; omega, by go_num, rfl, ?_, Below.grown (Hb.out.alloc (by omega) _) hg1 (by simp; omega) (fun k hk => by have := (hown.lt k hk).1; omega), (Hbox.out.alloc _).grown hg1 (fun e => by have := (hown.lt _ e.symm).1; omega), ?_⟩
        · have := HX.out; rw [this, Int.natCast_add, Int.mul_add]; omega
        · have hX := HX.out; rw [Hst.out, ← Hln.out, int_append]; subst hX; exact hown1
      case measure => have := Hlt.out; simp [intOf] <;> omega
    · have hin : h = i := by omega
      subst hin
      have dlt : decide ((h : Int) < (h : Int)) = false := decide_eq_false (by omega)
      clear hlt hi
      have Hown := Lib.hid hown; have Hb := Lib.hid hb; clear hown hb
      have HX := Lib.hid hX; clear hX
      go_wp2
      go_loopw [4, 5, 7] (fun ov xv iv wr => ∃ i : Nat, ∃ X : Int, i ≤ c ∧ iv = .int .i64 (i : Int) ∧ xv = .int .i64 X ∧ X = (1 + 2 * (h : Int)) + 1 * (i : Int) ∧ Below N w wr ∧ Blk wr N 25 #[.int .i64 (h : Int), .int .i64 (c : Int), .int .i64 (b : Int)] ∧ wr.ownsRow (N + 1) 3 1 ov (4 * h + 2 * i) (intCells (Surf.hs h ++ Surf.cs (1 + 2 * (h : Int)) i))) (fun _ _ iv _ => (c - intOf iv).toNat)
      case atStart => exact ⟨0, X, Nat.zero_le _, rfl, rfl, by have := HX.out; omega, Hb.out, Hbox.out, by simpa [Surf.cs] using Hown.out⟩
      case round =>
        obtain ⟨i, X, hi, rfl, rfl, hX, hb, hbox, hown⟩ := hrel
        have hNle : N + 1 ≤ wr.heap.size := hbox.lt
        obtain ⟨_, _, _, _, _, _⟩ := hbox.six
        have Hbox := Lib.hid hbox; clear hbox
        by_cases hlt : i < c
        · have Hst := Lib.hid (Surf.cs_snoc (1 + 2 * (h : Int)) i)
          have dlt : decide ((i : Int) < (c : Int)) = true := decide_eq_true (by omega)
          have hx0 : 1 ≤ X := by omega
          have hx1 : X ≤ 1000 := by omega
          have HX := Lib.hid hX
          have Hb := Lib.hid hb; have Hlt := Lib.hid hlt; clear hb hlt
          have hc1 : (4 * h + 2 * i) + 2 ≤ maxLen := by unfold maxLen; omega
          have hc2 : ((4 * h + 2 * i) + 2) * 8 ≤ 140737488355328 := by omega
          have Hln := Lib.hid (show (4 * h + 2 * i) + 2 = (4 * h + 2 * (i + 1)) by omega)
          clear hX
          obtain ⟨av, cv, rfl⟩ := own_len hown
          go_wp2_with (at_builtin; refine append_lits [.int .i64 X, .int .i64 X] 2 rfl rfl (.tmp 52) (.tmp 55) 46 rfl (N + 1) 3 i0 _ 8 Tryd.underlying46 Hi0.out Hz0.out Hz1.out Hz2.out (by rfl) _ _ _ rfl hown (ints_one [X, X]) _ rfl hc1 hc2 hNle ?_; intro v1 w1 hown1 hg1)
          go_roundw
          case rel =>
            refine ⟨i + 1, X + 1, by have := Hlt.out; omega, by go_num, rfl, ?_, Below.grown (Hb.out.alloc (by omega) _) hg1 (by simp; omega) (fun k hk => by have := (hown.lt k hk).1; omega), (Hbox.out.alloc _).grown hg1 (fun e => by have := (hown.lt _ e.symm).1; omega), ?_⟩
            · have := HX.out; rw [this, Int.natCast_add, Int.mul_add]; omega
            · have hX := HX.out; rw [Hst.out, ← List.append_assoc, ← Hln.out, int_append]; subst hX; exact hown1
          case measure => have := Hlt.out; simp [intOf] <;> omega
        · have hin : c = i := by omega
          subst hin
          have dlt : decide ((c : Int) < (c : Int)) = false := decide_eq_false (by omega)
          clear hlt hi
          have Hown := Lib.hid hown; have Hb := Lib.hid hb; clear hown hb
          have HX := Lib.hid hX; clear hX
          go_wp2
          go_loopw [4, 5, 8] (fun ov xv iv wr => ∃ i : Nat, ∃ X : Int, i ≤ b ∧ iv = .int .i64 (i : Int) ∧ xv = .int .i64 X ∧ X = (1 + 2 * (h : Int) + (c : Int)) + 2 * (i : Int) ∧ Below N w wr ∧ Blk wr N 25 #[.int .i64 (h : Int), .int .i64 (c : Int), .int .i64 (b : Int)] ∧ wr.ownsRow (N + 1) 3 1 ov (4 * h + 2 * c + 3 * i) (intCells (Surf.hs h ++ Surf.cs (1 + 2 * (h : Int)) c ++ Surf.bs (1 + 2 * (h : Int) + (c : Int)) i))) (fun _ _ iv _ => (b - intOf iv).toNat)
          case atStart => exact ⟨0, X, Nat.zero_le _, rfl, rfl, by have := HX.out; omega, Hb.out, Hbox.out, by simpa [Surf.bs] using Hown.out⟩
          case round =>
            obtain ⟨i, X, hi, rfl, rfl, hX, hb, hbox, hown⟩ := hrel
            have hNle : N + 1 ≤ wr.heap.size := hbox.lt
            obtain ⟨_, _, _, _, _, _⟩ := hbox.six
            have Hbox := Lib.hid hbox; clear hbox
            by_cases hlt : i < b
            · have Hst := Lib.hid (Surf.bs_snoc (1 + 2 * (h : Int) + (c : Int)) i)
              have dlt : decide ((i : Int) < (b : Int)) = true := decide_eq_true (by omega)
              have hx0 : 1 ≤ X := by omega
              have hx1 : X ≤ 1000 := by omega
              have HX := Lib.hid hX
              have Hb := Lib.hid hb; have Hlt := Lib.hid hlt; clear hb hlt
              have hc1 : (4 * h + 2 * c + 3 * i) + 3 ≤ maxLen := by unfold maxLen; omega
              have hc2 : ((4 * h + 2 * c + 3 * i) + 3) * 8 ≤ 140737488355328 := by omega
              have Hln := Lib.hid (show (4 * h + 2 * c + 3 * i) + 3 = (4 * h + 2 * c + 3 * (i + 1)) by omega)
              clear hX
              obtain ⟨av, cv, rfl⟩ := own_len hown
              go_wp2_with (at_builtin; refine append_lits [.int .i64 X, .int .i64 (X + 1), .int .i64 (-X)] 3 rfl rfl (.tmp 65) (.tmp 71) 46 rfl (N + 1) 3 i0 _ 8 Tryd.underlying46 Hi0.out Hz0.out Hz1.out Hz2.out (by rfl) _ _ _ rfl hown (ints_one [X, X + 1, -X]) _ rfl hc1 hc2 hNle ?_; intro v1 w1 hown1 hg1)
              go_roundw
              case rel =>
                refine ⟨i + 1, X + 2, by have := Hlt.out; omega, by go_num, rfl, ?_, Below.grown (Hb.out.alloc (by omega) _) hg1 (by simp; omega) (fun k hk => by have := (hown.lt k hk).1; omega), (Hbox.out.alloc _).grown hg1 (fun e => by have := (hown.lt _ e.symm).1; omega), ?_⟩
                · have := HX.out; rw [this, Int.natCast_add, Int.mul_add]; omega
                · have hX := HX.out; rw [Hst.out, ← List.append_assoc, ← Hln.out, int_append]; subst hX; exact hown1
              case measure => have := Hlt.out; simp [intOf] <;> omega
            · have hin : b = i := by omega
              subst hin
              have dlt : decide ((b : Int) < (b : Int)) = false := decide_eq_false (by omega)
              clear hlt hi
              have hn1 : N ≤ wr.heap.size := by omega
              by_cases h0 : h = 0 ∧ c = 0 ∧ b = 0
              · obtain ⟨rfl, rfl, rfl⟩ := h0
                have Hb := Lib.hid hb; have Hn := Lib.hid hn1
                obtain ⟨av, cv, rfl⟩ := own_len hown
                clear hown hb hX hn1 hNle
                go_wp2
                go_ret2
                rw [show Surf.side 0 0 0 = [1, -1] from rfl]
                refine ⟨_, _, rfl, Nat.le_refl _, by unfold maxLen; decide, ?_, ?_⟩
                · rw [HN.out]
                  exact grid_one (w := wr.alloc (.cells #[.int .i64 1, .int .i64 (-1)] 3)) (l := [1, -1]) (RowIn.of_blk (hi := wr.heap.size + 1) (Blk.new wr _ _) Hn.out (by omega)).fresh (by have := Hn.out; simp; omega) rfl (by simp) (Nat.le_refl _)
                · rw [HN.out]; exact (Hb.out.alloc Hn.out _).alloc (by have := Hn.out; simp; omega) _
              · have hg := own_gives (w := w) (l := Surf.poly h c b) (own_mono (base' := w.heap.size) (show wr.ownsRow (N + 1) 3 1 _ (4 * h + 2 * c + 3 * b) (intCells (Surf.poly h c b)) from by unfold Surf.poly; exact hown) (by have := HN.out; omega)) (Surf.poly_len h c b) (by rw [HN.out]; exact hb)
                obtain ⟨pa, pc, he, hcap, _, hf, _⟩ := hg
                rw [HN.out] at hf
                rw [Surf.poly_len] at hcap
                have Hcap := Lib.hid hcap; clear hcap
                have d0 : (4 * (h : Int) + 2 * (c : Int) + 3 * (b : Int) == 0) = false := by rw [beq_eq_false_iff_ne]; omega
                obtain ⟨av, cv, rfl⟩ := own_len hown
                rw [Surf.poly_len] at he
                have hpa : pa = av ∧ pc = cv := by cases he; exact ⟨rfl, rfl⟩
                obtain ⟨rfl, rfl⟩ := hpa
                have Hside := Lib.hid (show Surf.side h c b = Surf.poly h c b from if_neg h0); have Hf := Lib.hid hf
                have Hb := Lib.hid hb; have Hn := Lib.hid hn1
                clear he hf hown hb hX hn1 hNle h0
                go_wp2
                go_ret2
                rw [Hside.out]
                refine ⟨_, _, rfl, Nat.le_refl _, by unfold maxLen; decide, ?_, ?_⟩
                · rw [HN.out]; exact grid_one Hf.out Hn.out (Surf.poly_len h c b) rfl Hcap.out
                · rw [HN.out]; exact Hb.out.alloc Hn.out _
set_option maxRecDepth 10000 in
set_option maxHeartbeats 2000000 in
theorem spec_StandardGluing (x y z : Int) (w : World) (ha : I64s [x, y, z]) :
    Calls Tryd.prog 7 #[.agg #[.int .i64 x, .int .i64 y, .int .i64 z]] w fun e w' => GivesRows2 w (Surf.std x y z) (decide (Surf.stdOk x y z)) e w' := by
  have hI := fun W => spec_IsSurface x y z W ha
  by_cases hs : Surf.Is x y z
  · have hs1 := hs
    obtain ⟨⟨h1, h2⟩, ⟨h3, h4⟩, ⟨h5, h6⟩, h7⟩ := hs
    by_cases h8 : 2 * x + y + 2 * z ≤ 8
    · have hok : Surf.stdOk x y z := ⟨hs1, h8⟩
      have h := spec_StandardGluing_ok x.toNat y.toNat z.toNat w (by rwa [Int.toNat_of_nonneg h1, Int.toNat_of_nonneg h3, Int.toNat_of_nonneg h5]) (by omega)
      rw [Int.toNat_of_nonneg h1, Int.toNat_of_nonneg h3, Int.toNat_of_nonneg h5] at h
      rw [show Surf.std x y z = [Surf.side x.toNat y.toNat z.toNat] from if_pos hok, decide_eq_true hok]
      exact h
    · rw [decide_eq_true hs1] at hI
      have hok : ¬ Surf.stdOk x y z := fun hh => h8 hh.2
      rw [show Surf.std x y z = [] from if_neg hok, decide_eq_false hok]
      have d8 : decide (8 < 2 * x + y + 2 * z) = true := decide_eq_true (by omega)
      generalize hN : w.heap.size = N at *
      have HN := Lib.hid hN
      have HI := Lib.hid hI; clear hI hok hs1 h7 h8 ha
      go_enter Tryd.func7, Tryd.ntmps7
      go_wp2_with fail
      refine (HI.out _).mono ?_
      rintro e w1 ⟨rfl, hb1⟩
      obtain ⟨hA1, hl1⟩ := Blk.of1 HN.out hb1 (by have := HN.out; simp; omega)
      have Hl1 := Lib.hid hl1; have HA1 := Lib.hid hA1
      obtain ⟨_, _, _, _, _, _⟩ := hA1.six
      clear hb1 hA1 hl1
      go_wp2
      go_ret2
      exact GivesRows2.none (by rw [HN.out]; exact Hl1.out.alloc (Nat.le_of_lt HA1.out.lt) _) (Nat.zero_le _)
  · rw [decide_eq_false hs] at hI
    have hok : ¬ Surf.stdOk x y z := fun hh => hs hh.1
    rw [show Surf.std x y z = [] from if_neg hok, decide_eq_false hok]
    generalize hN : w.heap.size = N at *
    have HN := Lib.hid hN
    have HI := Lib.hid hI; clear hI hok hs ha
    go_enter Tryd.func7, Tryd.ntmps7
    go_wp2_with fail
    refine (HI.out _).mono ?_
    rintro e w1 ⟨rfl, hb1⟩
    obtain ⟨hA1, hl1⟩ := Blk.of1 HN.out hb1 (by have := HN.out; simp; omega)
    have Hl1 := Lib.hid hl1; have HA1 := Lib.hid hA1
    clear hb1 hA1 hl1
    go_wp2
    go_ret2
    exact GivesRows2.none (by rw [HN.out]; exact Hl1.out.alloc (Nat.le_of_lt HA1.out.lt) _) (Nat.zero_le _)
end Go.Proofs.YtodgongemoabiaaDoor
