/-
  The walks of the program's and the model's ReduceWord.
-/
import Derived.Test.YtapclpfhpmmbjaaBase
import Derived.Test.YtapclpfhpmmbjaaSlice
import Derived.Test.YtapclpfhpmmbjaaInts
import Derived.Test.YtapclpfhpmmbjaaWord
import Derived.Test.YtapclpfhpmmbjaaIsWord
import Derived.Deep.QuietTactic
import Derived.BigQuiet
namespace Go.Proofs.Ytapclpfhpmmbjaa
open Go.RowKit

/-- The call gives these integers, in memory of its own. -/
def Gives (w : World) (l : List Int) (e : Ending) (w' : World) : Prop := ∃ a c, e = .returned (.slice a l.length c) ∧ l.length ≤ c ∧ c ≤ maxLen ∧ Fresh w' w.heap.size 3 a (intCells l) ∧ Below w.heap.size w w'
theorem own_gives {w w' : World} {v : Value} {n : Nat} {l : List Int} (h : w'.ownsRow w.heap.size 3 1 v n (intCells l)) (hn : l.length = n) (hb : Below w.heap.size w w') : Gives w l (.returned v) w' := by
  rcases h.2 with ⟨rfl, rfl⟩ | ⟨g, cap, cur, rfl, hg, hh, hle, hm, hc, ht⟩
  · obtain rfl := List.eq_nil_of_length_eq_zero hn
    exact ⟨none, 0, rfl, Nat.le_refl _, Nat.zero_le _, Or.inl rfl, hb⟩
  · refine ⟨_, _, by rw [hn], by omega, hm, Or.inr ⟨g, 0, cur, rfl, hg, hh, fun i v hv => ?_⟩, hb⟩
    rw [Nat.zero_add]
    rw [← ht, List.getElem?_take] at hv
    split at hv
    · simpa using hv
    · cases hv
theorem Gives.none {w w' : World} (hb : Below w.heap.size w w') : Gives w [] (.returned (.slice none 0 0)) w' := ⟨_, _, rfl, Nat.le_refl _, Nat.zero_le _, Or.inl rfl, hb⟩
theorem Gives.later {w w0 w' : World} {l : List Int} {e : Ending} (h : Gives w0 l e w') (hb : Below w.heap.size w w0) : Gives w l e w' := by
  obtain ⟨a, c, rfl, h1, h2, h3, h4⟩ := h
  exact ⟨a, c, rfl, h1, h2, h3.mono hb.size, hb.trans (h4.mono hb.size)⟩
/-- The beginning of a row of the call's own. -/
theorem own_take {w : World} {base g cap n m : Nat} {e : TypeId} {xs : List Value} (h : w.ownsRow base e 1 (.slice (some ⟨g, 0, none⟩) n cap) n xs) (hm : m ≤ n) : w.ownsRow base e 1 (.slice (some ⟨g, 0, none⟩) m cap) m (xs.take m) := by
  obtain ⟨hx, ⟨h1, _⟩ | ⟨g', cap', cur, h1, hg, hh, hle, hmx, hc, ht⟩⟩ := h
  · cases h1
  · cases h1
    refine ⟨by simp at hx ⊢; omega, Or.inr ⟨g, cap, cur, rfl, hg, hh, by omega, hmx, hc, ?_⟩⟩
    rw [← ht, List.take_take]; congr 1; omega
theorem own_drewN {w : World} {base n : Nat} {e : TypeId} {v : Value} {xs : List Value} (h : w.ownsRow base e 1 v n xs) (q : Nat) : (w.drewN q).ownsRow base e 1 v n xs := h
theorem own_mono {w : World} {base base' n : Nat} {e : TypeId} {v : Value} {xs : List Value} (h : w.ownsRow base e 1 v n xs) (hb : base' ≤ base) : w.ownsRow base' e 1 v n xs := by
  obtain ⟨hx, h | ⟨g, cap, cur, h1, hg, h2⟩⟩ := h
  · exact ⟨hx, Or.inl h⟩
  · exact ⟨hx, Or.inr ⟨g, cap, cur, h1, Nat.le_trans hb hg, h2⟩⟩
theorem own_form {w : World} {base n : Nat} {e : TypeId} {v : Value} {xs : List Value} (h : w.ownsRow base e 1 v n xs) (hn : 0 < n) : ∃ g cap, v = .slice (some ⟨g, 0, none⟩) n cap ∧ n ≤ cap ∧ cap ≤ maxLen := by
  obtain ⟨_, ⟨_, h2⟩ | ⟨g, cap, cur, h1, hg, hh, hle, hmx, hc, ht⟩⟩ := h
  · omega
  · exact ⟨g, cap, h1, hle, hmx⟩
theorem own_len {w : World} {base n : Nat} {e : TypeId} {v : Value} {xs : List Value} (h : w.ownsRow base e 1 v n xs) : ∃ a cap, v = .slice a n cap := by
  obtain ⟨_, ⟨h1, rfl⟩ | ⟨g, cap, cur, h1, hg, hh, hle, hmx, hc, ht⟩⟩ := h
  · exact ⟨none, 0, h1⟩
  · exact ⟨_, cap, h1⟩
theorem own_cell {w : World} {base g cap n : Nat} {e : TypeId} {l : List Int} (h : w.ownsRow base e 1 (.slice (some ⟨g, 0, none⟩) n cap) n (intCells l)) {k : Nat} (hk : k < n) (hl : l.length = n) : w.cell? ⟨g, k, none⟩ = some (.int .i64 (l[k]'(by omega))) := by
  rw [h.cellAt k (by omega), intCells_get (by omega)]
theorem intCells_take (l : List Int) (k : Nat) : (intCells l).take k = intCells (l.take k) := by simp [intCells, List.map_take]
theorem intCells_snoc (l : List Int) (x : Int) : intCells l ++ [.int .i64 x] = intCells (l ++ [x]) := by simp [intCells]
theorem info_int_parts : ∃ i, Try.prog.info? 3 = some i ∧ i.zero = some (.int .i64 0) ∧ i.size = 1 ∧ i.bytes = 8 := by
  obtain ⟨i, h1, h2, h3, h4⟩ := info_parts info_int
  exact ⟨i, h1, h2, h3, h4⟩

set_option maxRecDepth 10000 in
set_option maxHeartbeats 400000 in
theorem impl_ReduceWord (a : Option Addr) (c : Nat) (l : List Int) (w : World) (ha : RowAt w a (intCells l)) (hl : l.length ≤ 1048576) :
    Calls Try.prog 32 #[.slice a l.length c] w fun e w' => Gives w (Word.reduce l) e w' := by
  have hcW := impl_IsWord a c l w ha hl
  by_cases hW : Word.IsW l
  · rw [decide_eq_true hW] at hcW
    have Hcw := Lib.hid hcW; clear hcW
    have HW := Lib.hid hW; clear hW
    obtain ⟨i0, hi0, hz0, hz1, hz2⟩ := info_int_parts
    have Hinfo := Lib.hid (show Try.prog.info? 3 = some i0 ∧ i0.zero = some (.int .i64 0) ∧ i0.size = 1 ∧ i0.bytes = 8 from ⟨hi0, hz0, hz1, hz2⟩)
    clear hi0 hz0 hz1 hz2
    generalize hN : w.heap.size = N at *
    have HN := Lib.hid hN
    go_enter Try.func32, Try.ntmps32
    go_wp2_with fail
    refine Hcw.out.mono ?_
    rintro e w1 ⟨rfl, hb1⟩
    go_wp2
    clear hN
    go_loopw [3, 5, 6, 12] (fun ov _ _ iv wr => ∃ i : Nat, i ≤ l.length ∧ iv = .int .i64 i ∧ Below N w wr ∧ wr.ownsRow N 3 1 ov (Word.red (l.take i)).length (intCells (Word.red (l.take i)))) (fun _ _ _ iv _ => l.length - (intOf iv).toNat)
    case atStart => exact ⟨0, by omega, rfl, hb1, World.ownsRow_nil _ _ _ _⟩
    case round =>
      obtain ⟨i, hi, rfl, hb, hown⟩ := hrel
      by_cases hlt : i < l.length
      · have ha' : RowAt wr a (intCells l) := ha.below (by rw [HN.out]; exact hb)
        obtain ⟨b, o, rfl, hbw0, hcell⟩ := intCells_at ha' hlt
        have hLx := HW.out.at hlt
        obtain ⟨hx0, hx1, hx2⟩ := hLx
        have hst := Word.red_take hlt
        have hlen := Word.red_len (l.take i)
        rw [List.length_take] at hlen
        have hl24 := HW.out.2
        have hNle : N ≤ wr.heap.size := by have := hb.size; rw [HN.out] at this; exact this
        generalize hx : l[i] = x at *
        generalize hX : Word.red (l.take i) = X at *
        generalize hY : Word.red (l.take (i + 1)) = Y at *
        have HY := Lib.hid hY; have HX := Lib.hid hX; have Hx := Lib.hid hx
        clear hx hX hY
        obtain ⟨hi0, hz0, hz1, hz2⟩ := Hinfo.out
        have Hi0 := Lib.hid hi0; have Hz0 := Lib.hid hz0; have Hz1 := Lib.hid hz1; have Hz2 := Lib.hid hz2
        clear hi0 hz0 hz1 hz2
        have hc1 : X.length + 1 ≤ maxLen := by unfold maxLen; omega
        have hc2 : (X.length + 1) * 8 ≤ 140737488355328 := by omega
        cases hk : X.length with
        | zero =>
          rw [Word.step_first hk] at hst
          have Hst := Lib.hid hst; clear hst
          rw [hk] at hown hc1 hc2
          have hk' := Lib.hid hk; clear hk
          obtain ⟨av, cv, rfl⟩ := own_len hown
          go_wp2_with (at_builtin; refine append_one rfl (.tmp 33) (.tmp 35) 24 rfl N 3 i0 _ 8 Try.underlying24 Hi0.out Hz0.out Hz1.out Hz2.out (by rfl) _ _ _ rfl hown (by rfl) _ rfl hc1 hc2 hNle ?_; intro v1 w1 hown1 hg1 _)
          go_roundw
          case rel =>
            refine ⟨i + 1, by omega, by go_num, Below.grown (hb.alloc hNle _) hg1 (by simp; omega) (fun k hk => (hown.lt k hk).1), ?_⟩
            rw [HY.out, Hst.out, ← intCells_snoc, List.length_append, hk'.out]; exact hown1
          case measure => simp [intOf]; omega
        | succ k =>
          obtain ⟨y, hy⟩ : ∃ y, X[k]? = some y := ⟨X[k], by simp [hk]⟩
          rw [hk] at hown hc1 hc2
          obtain ⟨g, cap, rfl, hcap, hcapm⟩ := own_form hown (by omega)
          have hcy := own_cell hown (k := k) (by omega) hk
          have hyy : X[k]'(by omega) = y := by
            have := List.getElem?_eq_getElem (l := X) (i := k) (by omega)
            rw [this] at hy; exact Option.some.inj hy
          rw [hyy] at hcy
          by_cases he : y = -x
          · rw [Word.step_back hk (by rw [hy, he])] at hst
            have Hst := Lib.hid hst; clear hst
            have hyl : -8 ≤ y ∧ y ≤ 8 := by omega
            have Hown := Lib.hid hown; clear hown
            clear hyy hy
            have hk' := Lib.hid hk; clear hk
            unfold maxLen at hcapm
            subst he
            go_wp2
            go_roundw
            case rel =>
              refine ⟨i + 1, by omega, by go_num, hb, ?_⟩
              rw [HY.out, Hst.out, ← intCells_take, List.length_take, hk'.out, Nat.min_eq_left (by omega)]
              exact own_take Hown.out (by omega)
            case measure => simp [intOf]; omega
          · rw [Word.step_on hk hy he] at hst
            have Hst := Lib.hid hst; clear hst
            clear hyy hy
            have hk' := Lib.hid hk; clear hk
            go_wp2_with (at_builtin; refine append_one rfl (.tmp 33) (.tmp 35) 24 rfl N 3 i0 _ 8 Try.underlying24 Hi0.out Hz0.out Hz1.out Hz2.out (by rfl) _ _ _ rfl hown (by rfl) _ rfl hc1 hc2 hNle ?_; intro v1 w1 hown1 hg1 _)
            go_roundw
            case rel =>
              refine ⟨i + 1, by omega, by go_num, Below.grown (hb.alloc hNle _) hg1 (by simp; omega) (fun k hk => (hown.lt k hk).1), ?_⟩
              rw [HY.out, Hst.out, ← intCells_snoc, List.length_append, hk'.out]; exact hown1
            case measure => simp [intOf]; omega
      · obtain rfl : i = l.length := by omega
        rw [List.take_of_length_le (Nat.le_refl _)] at hown
        have Hown := Lib.hid hown; clear hown
        go_wp2
        go_ret
        rw [show Word.reduce l = Word.red l from if_pos HW.out]
        exact own_gives (by rw [HN.out]; exact Hown.out) rfl (by rw [HN.out]; exact hb)
  · rw [decide_eq_false hW] at hcW
    have Hcw := Lib.hid hcW; clear hcW
    have HW := Lib.hid hW; clear hW
    go_enter Try.func32, Try.ntmps32
    go_wp2_with fail
    refine Hcw.out.mono ?_
    rintro e w1 ⟨rfl, hb1⟩
    go_wp2
    go_ret
    rw [show Word.reduce l = [] from if_neg HW.out]
    exact Gives.none hb1
end Go.Proofs.Ytapclpfhpmmbjaa
