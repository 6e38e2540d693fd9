/-
  What the laws on words turn on: reducing, turning and summing letters.
-/
import Derived.Test.YtapclpfhpmmbjaaBase
import Derived.Test.YtapclpfhpmmbjaaSlice
import Derived.Test.YtapclpfhpmmbjaaInts
import Derived.Test.YtapclpfhpmmbjaaWord
import Derived.Test.YtapclpfhpmmbjaaParseWord
import Derived.Test.YtapclpfhpmmbjaaBytes
import Derived.Test.YtapclpfhpmmbjaaWordText
import Derived.Test.YtapclpfhpmmbjaaConj
namespace Go.Proofs.Ytapclpfhpmmbjaa
open Go.RowKit

namespace Word
/-- No letter beside its inverse. -/
def Redd (s : List Int) : Prop := ∀ i x y, s[i]? = some x → s[i + 1]? = some y → y ≠ -x
theorem redd_nil : Redd [] := fun i x y h => by simp at h
theorem redd_take {s : List Int} (h : Redd s) (k : Nat) : Redd (s.take k) := fun i x y hx hy => by
  rw [List.getElem?_take] at hx hy
  split at hx <;> split at hy
  · exact h i x y hx hy
  all_goals simp_all
theorem redd_drop {s : List Int} (h : Redd s) (k : Nat) : Redd (s.drop k) := fun i x y hx hy => by
  rw [List.getElem?_drop] at hx hy
  exact h (k + i) x y hx (by rw [show k + i + 1 = k + (i + 1) from by omega]; exact hy)
theorem redd_mid {s : List Int} (h : Redd s) : Redd (mid s) := by
  unfold mid; rw [List.dropLast_eq_take]; exact redd_take (redd_drop h 1) _
theorem last_some {s : List Int} {x : Int} (h : s.getLast? = some x) : ∃ t, s = t ++ [x] := by
  rcases List.eq_nil_or_concat s with rfl | ⟨t, y, rfl⟩
  · simp at h
  · simp at h; exact ⟨t, by rw [h, List.concat_eq_append]⟩
theorem redd_step {s : List Int} {x : Int} (h : Redd s) : Redd (redStep s x) := by
  unfold redStep
  split
  · rw [List.dropLast_eq_take]; exact redd_take h _
  · rename_i hl
    intro i a b ha hb
    rw [List.getElem?_append] at ha hb
    split at hb
    · rename_i h1
      rw [if_pos (by omega)] at ha
      exact h i a b ha hb
    · rename_i h1
      split at ha
      · rename_i h2
        have hi : i + 1 = s.length := by omega
        rw [show i + 1 - s.length = 0 from by omega] at hb
        simp at hb
        intro e
        apply hl
        rw [List.getLast?_eq_getElem?, show s.length - 1 = i from by omega, ha, hb, e]; simp
      · rename_i h2
        rw [show i + 1 - s.length = (i - s.length) + 1 from by omega] at hb
        simp at hb
theorem redd_fold {m : List Int} : ∀ {s : List Int}, Redd s → Redd (m.foldl redStep s) := by
  induction m with
  | nil => intro s h; exact h
  | cons x m ih => intro s h; exact ih (redd_step h)
theorem redd_red (l : List Int) : Redd (red l) := redd_fold redd_nil
/-- A letter and its inverse. -/
theorem step_undo {s : List Int} {x : Int} (h : Redd s) : redStep (redStep s x) (-x) = s := by
  by_cases hl : s.getLast? = some (-x)
  · obtain ⟨t, rfl⟩ := last_some hl
    have e : redStep (t ++ [-x]) x = t := by simp [redStep]
    rw [e, redStep, if_neg]
    intro h2
    obtain ⟨u, rfl⟩ := last_some h2
    have := h u.length (- -x) (-x) (by simp) (by simp)
    exact this (by simp)
  · have e : redStep s x = s ++ [x] := by rw [redStep, if_neg hl]
    rw [e, redStep, if_pos (by simp)]; simp
theorem fold_inv {m : List Int} : ∀ {s : List Int}, Redd s → (m ++ inv m).foldl redStep s = s := by
  induction m with
  | nil => intro s _; rfl
  | cons x m ih =>
    intro s h
    have := ih (redd_step (x := x) h)
    rw [inv_cons, List.cons_append, List.foldl_cons, ← List.append_assoc, List.foldl_append, this]
    exact step_undo h
theorem red_self {s : List Int} (h : Redd s) : red s = s := by
  induction hn : s.length generalizing s with
  | zero => rw [List.eq_nil_of_length_eq_zero hn]; rfl
  | succ n ih =>
    rcases List.eq_nil_or_concat s with rfl | ⟨t, x, rfl⟩
    · simp at hn
    · rw [List.concat_eq_append] at *
      have ht : Redd t := by
        have := redd_take h t.length
        simpa using this
      have hn' : t.length = n := by simpa using hn
      rw [red_snoc, ih ht hn', redStep, if_neg]
      intro hl
      obtain ⟨u, rfl⟩ := last_some hl
      have := h u.length (-x) x (by simp) (by simp)
      exact this (by simp)
theorem red_red (l : List Int) : red (red l) = red l := red_self (redd_red l)
theorem red_append (a b : List Int) : red (a ++ b) = b.foldl redStep (red a) := by unfold red; rw [List.foldl_append]
theorem red_left (a b : List Int) : red (red a ++ b) = red (a ++ b) := by rw [red_append, red_red, red_append]
theorem red_cancel (a u : List Int) : red (a ++ u ++ inv u) = red a := by
  rw [List.append_assoc, red_append]; exact fold_inv (redd_red a)
theorem red_inv (l : List Int) : red (l ++ inv l) = [] := fold_inv redd_nil
theorem inv_inv (l : List Int) : inv (inv l) = l := by
  induction l with
  | nil => rfl
  | cons x r ih =>
    rw [inv_cons]
    unfold inv at ih ⊢
    rw [List.map_append, List.reverse_append, ih]; simp
theorem inv_w {l : List Int} (h : IsW l) : IsW (inv l) := by
  refine ⟨fun x hx => ?_, by rw [inv_len]; exact h.2⟩
  simp only [inv, List.mem_reverse, List.mem_map] at hx
  obtain ⟨y, hy, rfl⟩ := hx
  have := (letter_iff y).1 (h.1 y hy)
  rw [letter_iff]; omega
theorem core_redd {l : List Int} (h : Redd l) : Redd (core l) := by
  induction hn : l.length using Nat.strongRecOn generalizing l with
  | ind n ih =>
    rw [core]
    split
    · exact ih (mid l).length (by rw [mid_len]; omega) (redd_mid h) rfl
    · exact h
theorem core_core (l : List Int) : core (core l) = core l := by
  induction hn : l.length using Nat.strongRecOn generalizing l with
  | ind n ih =>
    by_cases hc : 2 ≤ l.length ∧ l[0]? = (l.getLast?.map fun x => -x)
    · have e : core l = core (mid l) := by rw [core, dif_pos hc]
      rw [e]
      exact ih (mid l).length (by rw [mid_len]; omega) (mid l) rfl
    · have e : core l = l := by rw [core, dif_neg hc]
      rw [e, e]
theorem core_again (l : List Int) : core (red (core (red l))) = core (red l) := by
  rw [red_self (core_redd (redd_red l)), core_core]
theorem turn_zero (l : List Int) : turn l ((0 : Nat) : Int) = l := by simp [turn]
/-- A word and its core are conjugate. -/
theorem conj_core {l : List Int} (h : IsW l) : conjB l (coreOf l) = true := by
  rw [coreOf_of h]
  have hc := core_red_w h
  by_cases he : (core (red l)).length = 0
  · refine (conj_empty h hc he true ?_)
    simp only [true_iff]
    rw [core_again]; exact he
  · refine conj_yes h hc (k := 0) (by omega) ?_
    rw [turn_zero, core_again]

/-- What a letter gives to the j-th sum. -/
def wt (j : Nat) (x : Int) : Int := if x = (j : Int) + 1 then 1 else if x = -((j : Int) + 1) then -1 else 0
def total (j : Nat) (l : List Int) : Int := (l.map (wt j)).sum
theorem wt_neg (j : Nat) (x : Int) : wt j (-x) = - wt j x := by
  unfold wt
  by_cases h1 : x = (j : Int) + 1
  · rw [if_neg (by omega), if_pos (by omega), if_pos h1]
  · by_cases h2 : x = -((j : Int) + 1)
    · rw [if_pos (by omega), if_neg h1, if_pos h2]; rfl
    · rw [if_neg (by omega), if_neg (by omega), if_neg h1, if_neg h2]; rfl
theorem total_append (j : Nat) (a b : List Int) : total j (a ++ b) = total j a + total j b := by simp [total]
theorem total_one (j : Nat) (x : Int) : total j [x] = wt j x := by simp [total]
theorem total_step (j : Nat) (s : List Int) (x : Int) : total j (redStep s x) = total j s + wt j x := by
  unfold redStep
  split
  · rename_i h
    obtain ⟨t, rfl⟩ := last_some h
    rw [List.dropLast_concat, total_append, total_one, wt_neg]; omega
  · rw [total_append, total_one]
theorem total_fold (j : Nat) (m : List Int) : ∀ s : List Int, total j (m.foldl redStep s) = total j s + total j m := by
  induction m with
  | nil => intro s; simp [total]
  | cons x m ih =>
    intro s
    rw [List.foldl_cons, ih, total_step, show x :: m = [x] ++ m from rfl, total_append, total_one]; omega
theorem total_red (j : Nat) (l : List Int) : total j (red l) = total j l := by
  rw [red, total_fold]; simp [total]
theorem total_turn (j : Nat) (l : List Int) (k : Int) : total j (turn l k) = total j l := by
  unfold turn
  rw [total_append]
  conv => rhs; rw [← List.take_append_drop (k % (l.length : Int)).toNat l, total_append]
  omega
theorem ends {l : List Int} (h : 2 ≤ l.length) : ∃ x y, l = x :: (mid l ++ [y]) := by
  cases l with
  | nil => simp at h
  | cons x r =>
    rcases List.eq_nil_or_concat r with rfl | ⟨t, y, rfl⟩
    · simp at h
    · exact ⟨x, y, by simp [mid]⟩
theorem total_core (j : Nat) (l : List Int) : total j (core l) = total j l := by
  induction hn : l.length using Nat.strongRecOn generalizing l with
  | ind n ih =>
    by_cases hc : 2 ≤ l.length ∧ l[0]? = (l.getLast?.map fun x => -x)
    · have e : core l = core (mid l) := by rw [core, dif_pos hc]
      rw [e, ih (mid l).length (by rw [mid_len]; omega) (mid l) rfl]
      obtain ⟨x, y, hl⟩ := ends hc.1
      have h2 := hc.2
      generalize mid l = m at hl
      subst hl
      have hxy : x = -y := by
        have hg : (x :: (m ++ [y])).getLast? = some y := by rw [show x :: (m ++ [y]) = (x :: m) ++ [y] from rfl, List.getLast?_concat]
        rw [hg] at h2
        simpa using h2
      rw [show x :: (m ++ [y]) = [x] ++ (m ++ [y]) from rfl, total_append, total_append, total_one, total_one, hxy, wt_neg]; omega
    · have e : core l = l := by rw [core, dif_neg hc]
      rw [e]
theorem sumPut_at {s : List Int} (hs : s.length = 8) {x : Int} (hx : Letter x) {j : Nat} (hj : j < 8) : (sumPut s x).getD j 0 = s.getD j 0 + wt j x := by
  obtain ⟨h0, h1, h2⟩ := hx
  unfold sumPut wt
  by_cases hp : 0 < x
  · rw [if_pos hp]
    by_cases he : (x - 1).toNat = j
    · rw [if_pos (by omega), List.getD_eq_getElem?_getD, List.getElem?_set, if_pos he, if_pos (by omega), he]; rfl
    · rw [if_neg (by omega), if_neg (by omega), List.getD_eq_getElem?_getD, List.getElem?_set, if_neg he, List.getD_eq_getElem?_getD]; omega
  · rw [if_neg hp]
    by_cases he : (-x - 1).toNat = j
    · rw [if_neg (by omega), if_pos (by omega), List.getD_eq_getElem?_getD, List.getElem?_set, if_pos he, if_pos (by omega), he]; rfl
    · rw [if_neg (by omega), if_neg (by omega), List.getD_eq_getElem?_getD, List.getElem?_set, if_neg he, List.getD_eq_getElem?_getD]; omega
theorem sums_at {l : List Int} (hl : ∀ x ∈ l, Letter x) {j : Nat} (hj : j < 8) : (sums l).getD j 0 = total j l := by
  have key : ∀ (m s : List Int), (∀ x ∈ m, Letter x) → s.length = 8 → (m.foldl sumPut s).getD j 0 = s.getD j 0 + total j m := by
    intro m
    induction m with
    | nil => intro s _ _; simp [total]
    | cons x m ih =>
      intro s hm hs
      rw [List.foldl_cons, ih _ (fun y hy => hm y (List.mem_cons_of_mem _ hy)) (by rw [sumPut_len, hs]), sumPut_at hs (hm x (List.mem_cons_self ..)) hj, show x :: m = [x] ++ m from rfl, total_append, total_one]; omega
  have := key l (List.replicate 8 0) hl (by simp)
  rw [sums, this]
  have h0 : (List.replicate 8 (0 : Int)).getD j 0 = 0 := by
    rw [List.getD_eq_getElem?_getD, List.getElem?_replicate]; split <;> rfl
  rw [h0]; omega
theorem sums_eq {a b : List Int} (ha : ∀ x ∈ a, Letter x) (hb : ∀ x ∈ b, Letter x) (h : ∀ j, total j a = total j b) : sums a = sums b := by
  apply List.ext_getElem?
  intro j
  by_cases hj : j < 8
  · have h1 := sums_at ha hj
    have h2 := sums_at hb hj
    rw [h j, ← h2] at h1
    rw [List.getD_eq_getElem?_getD, List.getD_eq_getElem?_getD] at h1
    have l1 := sums_len a
    have l2 := sums_len b
    rw [List.getElem?_eq_getElem (by omega), List.getElem?_eq_getElem (by omega)] at h1 ⊢
    simpa using h1
  · rw [List.getElem?_eq_none (by rw [sums_len]; omega), List.getElem?_eq_none (by rw [sums_len]; omega)]
theorem sumsOf_red {l : List Int} (h : IsW l) : sumsOf (red l) = sumsOf l := by
  have h1 : sumsOf (red l) = sums (red l) := if_pos (red_w h)
  have h2 : sumsOf l = sums l := if_pos h
  rw [h1, h2]
  exact sums_eq (red_w h).1 h.1 (fun j => total_red j l)
open Classical in
theorem sumsOf_conj {v u : List Int} (h : conjB v u = true) : sumsOf v = sumsOf u := by
  unfold conjB at h
  obtain ⟨hv, hu, hk⟩ := of_decide_eq_true h
  have h1 : sumsOf v = sums v := if_pos hv
  have h2 : sumsOf u = sums u := if_pos hu
  rw [h1, h2]
  refine sums_eq hv.1 hu.1 (fun j => ?_)
  have e : total j (core (red v)) = total j (core (red u)) := by
    rcases hk with ⟨k, _, hk⟩ | ⟨ha, hb⟩
    · rw [← hk, total_turn]
    · rw [ha, hb]
  rw [total_core, total_red, total_core, total_red] at e
  exact e
theorem letterOf_low_of {x : Int} (h : Letter x) : letterOf (low x) = x := by
  rcases letter_cases h with rfl | rfl | rfl | rfl | rfl | rfl | rfl | rfl | rfl | rfl | rfl | rfl | rfl | rfl | rfl | rfl <;> rfl
theorem low_ne {x : Int} (h : Letter x) : low x ≠ 45 := by
  rcases letter_cases h with rfl | rfl | rfl | rfl | rfl | rfl | rfl | rfl | rfl | rfl | rfl | rfl | rfl | rfl | rfl | rfl <;> decide
theorem text_letters {l : List Int} (h : ∀ x ∈ l, Letter x) : (text l).map letterOf = l := by
  unfold text
  rw [List.map_map]
  conv => rhs; rw [← List.map_id l]
  exact List.map_congr_left (fun x hx => letterOf_low_of (h x hx))
theorem text_ne {l : List Int} (h : ∀ x ∈ l, Letter x) : text l ≠ [45] := by
  intro e
  cases l with
  | nil => simp [text] at e
  | cons x r =>
    simp only [text, List.map_cons, List.cons.injEq] at e
    exact low_ne (h x (List.mem_cons_self ..)) e.1
theorem said_parses (l : List Int) : decide (Parses (said l)) = decide (IsW l) := by
  apply decide_eq_decide.2
  unfold said
  by_cases h : IsW l
  · rw [if_pos h]
    by_cases hn : l = []
    · rw [if_pos hn]; exact ⟨fun _ => h, fun _ => Or.inl rfl⟩
    · rw [if_neg hn]
      refine ⟨fun _ => h, fun _ => Or.inr ⟨?_, by rw [text_len]; exact h.2, ?_⟩⟩
      · intro e; exact hn (List.map_eq_nil_iff.1 e)
      · intro b hb
        obtain ⟨x, hx, rfl⟩ := List.mem_map.1 hb
        rw [letterOf_low_of (h.1 x hx)]; exact (h.1 x hx).1
  · rw [if_neg h]
    refine ⟨fun x => ?_, fun x => absurd x h⟩
    rcases x with x | ⟨x, _⟩
    · cases x
    · exact absurd rfl x
theorem said_parsed {l : List Int} (h : IsW l) : parsed (said l) = l := by
  unfold said
  rw [if_pos h]
  by_cases hn : l = []
  · rw [if_pos hn, hn]; rfl
  · rw [if_neg hn, parsed_of (text_ne h.1), text_letters h.1]
    refine Or.inr ⟨?_, by rw [text_len]; exact h.2, ?_⟩
    · intro e; exact hn (List.map_eq_nil_iff.1 e)
    · intro b hb
      obtain ⟨x, hx, rfl⟩ := List.mem_map.1 hb
      rw [letterOf_low_of (h.1 x hx)]; exact (h.1 x hx).1
end Word
end Go.Proofs.Ytapclpfhpmmbjaa
