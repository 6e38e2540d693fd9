/-
  Actions on sheets, pure: words act as permutations; cycles hang on what a permutation does below n alone.
-/
import Derived.Test.YtodgongemoabiaaBase
import Derived.Test.YtodgongemoabiaaSlice
import Derived.Test.YtodgongemoabiaaInts
import Derived.Test.YtodgongemoabiaaWord
import Derived.Test.YtodgongemoabiaaGrid
import Derived.Test.YtodgongemoabiaaClass
import Derived.Test.YtodgongemoabiaaTri
import Derived.Test.YtodgongemoabiaaLab
import Derived.Test.YtodgongemoabiaaMap
import Derived.Test.YtodgongemoabiaaCov
namespace Go.Proofs.Ytodgongemoabiaa
open Go.RowKit

namespace Cv
theorem img_inj {L : List (List Int)} (h : Perms L) {x : Int} (hx : x ≠ 0) (hf : x.natAbs ≤ L.length) {s t : Nat} (hs : s < deg L) (ht : t < deg L) (e : img L s x = img L t x) : s = t := by
  obtain ⟨h1, h2⟩ := perm_isP h hx hf
  exact Mp.at_inj h1 (by omega) (by omega) e
theorem act_inj {L : List (List Int)} (h : Perms L) : ∀ {w : List Int}, (∀ x ∈ w, x ≠ 0 ∧ x.natAbs ≤ L.length) → ∀ {s t : Nat}, s < deg L → t < deg L → act L w s = act L w t → s = t
  | [], _, _, _, _, _, e => e
  | x :: w, hw, s, t, hs, ht, e => by
    have hx := hw x (List.mem_cons_self ..)
    exact img_inj h hx.1 hx.2 hs ht (act_inj h (w := w) (fun y hy => hw y (List.mem_cons_of_mem _ hy)) (img_lt h hx.1 hx.2 hs) (img_lt h hx.1 hx.2 ht) e)
theorem row_eq (L : List (List Int)) (w : List Int) (n : Nat) : row L w n = Cls.row (act L w) n := rfl
theorem ok_lets {L : List (List Int)} {w : List Int} (h : Ok L w) : ∀ x ∈ w, x ≠ 0 ∧ x.natAbs ≤ L.length := fun x hx => ⟨(h.2.1.1 x hx).1, h.2.2 x hx⟩
theorem row_isP {L : List (List Int)} {w : List Int} (h : Ok L w) : Mp.IsP (row L w (deg L)) := by
  rw [row_eq]
  exact Mp.isP_row (fun d hd => act_lt h.1 (ok_lets h) hd) (fun d e hd he hh => act_inj h.1 (ok_lets h) hd he hh)
theorem cyc_congr {f g : Nat → Nat} {n : Nat} (h : ∀ x, x < n → f x = g x ∧ f x < n) : ∀ (k : Nat) (s : Nat → Bool) (d : Nat), d < n → Mp.cyc f k s d = Mp.cyc g k s d
  | 0, _, _, _ => rfl
  | k + 1, s, d, hd => by
    obtain ⟨h1, h2⟩ := h d hd
    unfold Mp.cyc
    split
    · rfl
    · rw [cyc_congr h k _ (f d) h2, h1]
theorem cycIn_congr {f g : Nat → Nat} {n : Nat} (h : ∀ x, x < n → f x = g x ∧ f x < n) (ms : List Nat) (hms : ∀ m ∈ ms, m < n) : cycIn f n ms = cycIn g n ms := by
  refine Cls.snoc_ind (p := fun ms => (∀ m ∈ ms, m < n) → cycIn f n ms = cycIn g n ms) (fun _ => rfl) (fun l m ih hl => ?_) ms hms
  have := ih fun x hx => hl x (List.mem_append.2 (Or.inl hx))
  rw [cycIn_snoc, cycIn_snoc, this]
  unfold Mp.cycStep
  rw [cyc_congr h (n + 1) _ m (hl m (List.mem_append.2 (Or.inr (List.mem_singleton.2 rfl))))]
theorem cycs_row {L : List (List Int)} {w : List Int} (h : Ok L w) : Mp.cycs (row L w (deg L)) = (Mp.cycTo (act L w) (deg L) (deg L)).2 := by
  unfold Mp.cycs
  rw [row_len, ← cycIn_range, ← cycIn_range, cycIn_congr (f := Mp.at_ (row L w (deg L))) (g := act L w) (fun x hx => ?_) _ (fun m hm => List.mem_range.1 hm)]
  have e : Mp.at_ (row L w (deg L)) x = act L w x := by rw [row_eq]; exact Mp.at_of_row hx
  rw [e]
  exact ⟨rfl, act_lt h.1 (ok_lets h) hx⟩
theorem cycles_row {L : List (List Int)} {w : List Int} (h : Ok L w) : Mp.cycles (row L w (deg L)) = Mp.natRows (liftsN L w) := by
  unfold Mp.cycles liftsN; rw [cycs_row h]
theorem liftsN_len {L : List (List Int)} {w : List Int} (h : Ok L w) : (liftsN L w).length ≤ 5 := by
  have h1 : ∀ i, (Mp.cycTo (act L w) (deg L) i).2.length ≤ i := by
    intro i
    induction i with
    | zero => exact Nat.le_refl _
    | succ i ih =>
      rw [Mp.cycTo_succ]
      unfold Mp.cycStep
      split
      · omega
      · simp; omega
  exact Nat.le_trans (h1 _) h.1.2.2.2.2
theorem lifts_len (L : List (List Int)) (w : List Int) : (lifts L w).length ≤ 5 := by
  unfold lifts
  split
  · rename_i h
    rw [List.length_mergeSort, List.length_map]; exact liftsN_len h
  · simp
end Cv
end Go.Proofs.Ytodgongemoabiaa
