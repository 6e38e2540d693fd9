/-
  The walks of the model's l9Put and LiftLengths.
-/
import Derived.Test.YtodgongemoabiaaBase
import Derived.Test.YtodgongemoabiaaSlice
import Derived.Test.YtodgongemoabiaaIntRow
import Derived.Test.YtodgongemoabiaaInts
import Derived.Test.YtodgongemoabiaaOwn
import Derived.Test.YtodgongemoabiaaAppend
import Derived.Test.YtodgongemoabiaaAppendNew
import Derived.Test.YtodgongemoabiaaRowI
import Derived.Test.YtodgongemoabiaaWord
import Derived.Test.YtodgongemoabiaaGrid
import Derived.Test.YtodgongemoabiaaGridWalk
import Derived.Test.YtodgongemoabiaaGridRows
import Derived.Test.YtodgongemoabiaaGivesRows
import Derived.Test.YtodgongemoabiaaClass
import Derived.Test.YtodgongemoabiaaLab
import Derived.Test.YtodgongemoabiaaMap
import Derived.Test.YtodgongemoabiaaMapA
import Derived.Test.YtodgongemoabiaaMapB
import Derived.Test.YtodgongemoabiaaMapD
import Derived.Test.YtodgongemoabiaaCov
import Derived.Test.YtodgongemoabiaaCovA
import Derived.Test.YtodgongemoabiaaCovP
import Derived.Test.YtodgongemoabiaaCovQ
import Derived.Test.YtodgongemoabiaaCovR
import Derived.Deep.QuietTactic
import Derived.BigQuiet
import Derived.StillTailTactics
namespace Go.Proofs.Ytodgongemoabiaa
open Go.RowKit

theorem Cv.row_cut {w : World} {b o c m : Nat} {l : List Int} (h : RowAt w (some ⟨b, o, none⟩) (intCells l)) (hm : m ≤ l.length) (hc : l.length ≤ c) : RowAt w (if c = m then some ⟨b, o, none⟩ else some ⟨b, o + m, none⟩) (intCells (l.drop m)) := by
  by_cases e : c = m
  · exact Or.inl (by rw [List.drop_eq_nil_of_le (by omega)]; rfl)
  · rw [if_neg e]
    rcases h with h | ⟨b', o', e', hlt, hc'⟩
    · left; have : l = [] := by simpa [intCells] using h
      rw [this]; simp [intCells]
    · cases e'
      refine Or.inr ⟨b, o + m, rfl, hlt, fun i v hv => ?_⟩
      rw [Nat.add_assoc]
      refine hc' (m + i) v ?_
      rw [show intCells (l.drop m) = (intCells l).drop m from by simp [intCells, List.map_drop], List.getElem?_drop] at hv
      exact hv
/-- From k on all are greater than x. -/
def Cv.Above (l : List Int) (x : Int) (k : Nat) : Prop := ∀ i v, k ≤ i → l[i]? = some v → x < v
theorem grown_trans {w w1 w2 : World} {r : Option Nat} (h : w.grownBy w1 r) (h' : w1.grownBy w2 r) : w.grownBy w2 r :=
  ⟨h'.os.trans h.os, h'.tape.trans h.tape, h'.output.trans h.output, Nat.le_trans h.size h'.size, fun k hk hne => (h'.block k (Nat.lt_of_lt_of_le hk h.size) hne).trans (h.block k hk hne)⟩
def Cv.Puts (N g : Nat) (l : List Int) (x : Int) (w : World) (e : Ending) (w' : World) : Prop :=
  ∃ g' cap' p, e = .returned (.slice (some ⟨g', 0, none⟩) (l.length + 1) cap') ∧ Cv.Cut l x p ∧ w'.ownsRow N 3 1 (.slice (some ⟨g', 0, none⟩) (l.length + 1) cap') (l.length + 1) (intCells (l.take p ++ [x] ++ l.drop p)) ∧ w.grownBy w' (some g) ∧ (g' = g ∨ w.heap.size ≤ g')
set_option maxRecDepth 10000 in
set_option maxHeartbeats 2000000 in
theorem spec_l9Put (N g cap : Nat) (l : List Int) (x : Int) (w : World) (hown : w.ownsRow N 3 1 (.slice (some ⟨g, 0, none⟩) l.length cap) l.length (intCells l)) (hN : N ≤ w.heap.size) (hl : l.length ≤ 1000) :
    Calls Try.prog 146 #[.slice (some ⟨g, 0, none⟩) l.length cap, .int .i64 x] w fun e w' => Cv.Puts N g l x w e w' := by
  obtain ⟨i0, hi0, hz0, hz1, hz2⟩ := info_int_parts
  have Hi0 := Lib.hid hi0; have Hz0 := Lib.hid hz0; have Hz1 := Lib.hid hz1; have Hz2 := Lib.hid hz2
  have hcap : l.length ≤ cap := by
    obtain ⟨a, c, e, hc, _⟩ := own_fresh hown (intCells_len l)
    cases e; exact hc
  have hglt := (hown.lt g rfl)
  have Hown := Lib.hid hown
  have Hrow := Lib.hid (show RowAt w (some ⟨g, 0, none⟩) (intCells l) from by
    obtain ⟨a, c, e, hr⟩ := own_row hown (intCells_len l)
    cases e; exact hr)
  clear hown hi0 hz0 hz1 hz2
  go_enter Try.func146, Try.ntmps146
  go_wp2
  go_loopw [5] (fun kv wr => ∃ k : Nat, k ≤ l.length ∧ kv = .int .i64 k ∧ Hid (Cv.Above l x k) ∧ wr = w) (fun kv _ => (intOf kv).toNat)
  case atStart => exact ⟨l.length, Nat.le_refl _, rfl, Lib.hid (fun i v h hv => absurd (List.getElem?_eq_some_iff.1 hv).1 (by omega)), rfl⟩
  case round =>
    obtain ⟨k, hk, rfl, hab, rfl⟩ := hrel
    have hend : (k = 0 ∨ ∀ v, l[k - 1]? = some v → v ≤ x) → Hid (Cv.Cut l x k) := fun h => Lib.hid ⟨hk, hab.out, h⟩
    by_cases hgo : 0 < k ∧ ∃ v, l[k - 1]? = some v ∧ x < v
    · obtain ⟨h0, y, hy, hxy⟩ := hgo
      obtain ⟨b, o, e0, hbw, hcell⟩ := intCells_get? Hrow.out hy
      cases e0
      rw [Nat.zero_add] at hcell
      have Hab := Lib.hid (show Cv.Above l x (k - 1) from fun i v hi hv => by
        rcases Nat.lt_or_ge i k with h | h
        · obtain rfl : i = k - 1 := by omega
          rw [hy] at hv; cases hv; exact hxy
        · exact hab.out i v h hv)
      obtain ⟨j, rfl⟩ : ∃ j, k = j + 1 := ⟨k - 1, by omega⟩
      rw [Nat.add_sub_cancel] at hcell Hab
      have d0 : (0 : Int) < ((j + 1 : Nat) : Int) := by omega
      have e1 : IntKind.i64.wrap (((j + 1 : Nat) : Int) - 1) = (j : Int) := by rw [wrap_small (by omega) (by omega)]; omega
      have e2 : (((j + 1 : Nat) : Int) - 1) = (j : Int) := by omega
      have j0 : (0 : Int) ≤ (j : Int) := by omega
      have j1 : (j : Int) < (l.length : Int) := by omega
      have dx : x < y := hxy
      clear hy hend h0
      generalize ((j + 1 : Nat) : Int) = z at *
      go_wp2
      go_roundw
      case rel => exact ⟨j, by omega, rfl, Hab, trivial⟩
      case measure => simp [intOf]; omega
    · have hcut := hend (by
        rcases Nat.eq_zero_or_pos k with h | h
        · exact Or.inl h
        · right; intro v hv
          have : ¬ x < v := fun hlt => hgo ⟨h, v, hv, hlt⟩
          omega)
      obtain ⟨A2, hA2⟩ : ∃ A2, (if cap = k then some (⟨g, 0, none⟩ : Addr) else some ⟨g, 0 + k, none⟩) = A2 := ⟨_, rfl⟩
      have hrA := Cv.row_cut (c := cap) (m := k) Hrow.out hk hcap
      rw [hA2] at hrA
      rw [Nat.zero_add] at hA2
      have HrA := Lib.hid hrA
      have hal : Below wr.heap.size wr (wr.alloc (.cells #[] 3)) := (Below.refl _ _).alloc (Nat.le_refl _) _
      have Hmk := Lib.hid (own_made (w := wr) rfl)
      have HrM := Lib.hid (HrA.out.below hal)
      have Hal := Lib.hid hal
      have hl2 : (intCells (l.drop k)).length = l.length - k := by rw [intCells_len, List.length_drop]
      have Hl2 := Lib.hid hl2
      have Htk := Lib.hid (show (intCells l).take k = intCells (l.take k) from intCells_take l k)
      have Htl := Lib.hid (show (l.take k).length = k by rw [List.length_take]; omega)
      have a7 : 0 + (l.length - k) ≤ maxLen := by unfold maxLen; omega
      have a8 : (0 + (l.length - k)) * 8 ≤ 140737488355328 := by omega
      have a3 : k + 1 ≤ maxLen := by unfold maxLen; omega
      have a4 : (k + 1) * 8 ≤ 140737488355328 := by omega
      have a5 : k + 1 + (l.length - k) ≤ maxLen := by unfold maxLen; omega
      have a6 : (k + 1 + (l.length - k)) * 8 ≤ 140737488355328 := by omega
      have hkc : (k : Int) ≤ (cap : Int) := by omega
      have hkl : (k : Int) ≤ (l.length : Int) := by omega
      have hk0 : (0 : Int) ≤ (k : Int) := by omega
      have hkc' : k ≤ cap := by omega
      clear hal hrA hl2 hend hab
      have HN := Lib.hid hN
      have htest : (k = 0) ∨ (0 < k ∧ ∃ (j : Nat) (y : Int), (k : Int) - 1 = (j : Int) ∧ j < l.length ∧ wr.cell? ⟨g, j, none⟩ = some (.int .i64 y) ∧ ¬ x < y) := by
        rcases Nat.eq_zero_or_pos k with h | h
        · exact Or.inl h
        · right
          obtain ⟨y, hy⟩ := get_some (show k - 1 < l.length by omega)
          obtain ⟨b, o, e0, hbw, hcell⟩ := intCells_get? Hrow.out hy
          cases e0
          rw [Nat.zero_add] at hcell
          exact ⟨h, k - 1, y, by omega, by omega, hcell, fun hlt => hgo ⟨h, y, hy, hlt⟩⟩
      clear hgo
      rcases htest with h0 | ⟨h0, j, y, e2, j1', hcell, dx⟩
      · have hq : ¬ (0 : Int) < (k : Int) := by omega
        clear h0
        go_wp2_with (first
          | (at_builtin; refine append_row rfl (.tmp 22) (.tmp 25) 42 rfl wr.heap.size 3 i0 _ 8 Try.underlying42 Hi0.out Hz0.out Hz1.out Hz2.out (by rfl) _ 0 (intCells []) rfl Hmk.out A2 (l.length - k) _ (intCells (l.drop k)) rfl HrM.out Hl2.out (intCells_one _) a7 a8 Hal.out.size ?_; intro v2 w2 hown2 hg2
             rw [Nat.zero_add] at hown2
             have hb2 := Below.grown Hal.out hg2 Hal.out.size (fun k hk => (Hmk.out.lt k hk).1)
             obtain ⟨ra, rc, rfl, hrr⟩ := own_row hown2 Hl2.out
             have hl' := own_take (own_keep Hown.out hb2 (fun k hk => (Hown.out.lt k hk).2)) hk
             rw [Htk.out] at hl'
             have Hb2 := Lib.hid hb2; have Hrest := Lib.hid (show w2.ownsRow wr.heap.size 3 1 (.slice ra (l.length - k) rc) (l.length - k) (intCells (l.drop k)) from hown2); have Hl' := Lib.hid hl'
             have hN2 : N ≤ w2.heap.size := Nat.le_trans HN.out hb2.size
             clear hown2 hg2 hb2 hrr hl')
          | (at_builtin; refine append_one_new rfl (.tmp 29) (.tmp 31) 42 rfl N 3 i0 _ 8 Try.underlying42 Hi0.out Hz0.out Hz1.out Hz2.out (by rfl) _ _ _ rfl Hl'.out (by rfl) _ rfl a3 a4 hN2 ?_; intro v3 w3 hown3 hg3 hn3
             have hg3' : (w2.alloc (.cells #[.int .i64 x] 3)).grownBy w3 (Value.slice (some ⟨g, 0, none⟩) k cap).ownBlock := hg3
             have hrest3 := (Hrest.out.alloc (.cells #[.int .i64 x] 3)).kept hg3' (by
               cases hq : (Value.slice ra (l.length - k) rc).ownBlock with
               | none => exact Or.inl rfl
               | some q =>
                 right
                 intro e
                 have h1 := (Hrest.out.lt q hq).1
                 have h2 : q = g := by have := Option.some.inj (e : some q = some g); exact this
                 omega)
             obtain ⟨ra', rc', e3, hrr3⟩ := own_row hrest3 Hl2.out
             cases e3
             have hG3 : wr.grownBy w3 (some g) := grown_trans (only_of_below (Hb2.out.alloc Hb2.out.size _) (some g)) hg3'
             have hz3 : wr.heap.size ≤ w3.heap.size := hG3.size
             have hn3' : v3.ownBlock = some g ∨ v3.ownBlock = some (w2.alloc (.cells #[.int .i64 x] 3)).heap.size := hn3
             have hz2 : wr.heap.size ≤ (w2.alloc (.cells #[.int .i64 x] 3)).heap.size := by have := Hb2.out.size; simp; omega
             have hn3'' : ∀ q, v3.ownBlock = some q → q = g ∨ wr.heap.size ≤ q := fun q hq => by
               rcases hn3' with e | e
               · left; rw [e] at hq; exact (Option.some.inj hq).symm
               · right; rw [e] at hq; have := Option.some.inj hq; omega
             have Hrr3 := Lib.hid hrr3; have Hown3 := Lib.hid hown3; have HG3 := Lib.hid hG3; have Hn3 := Lib.hid hn3''
             have hN3 : N ≤ w3.heap.size := by have := hg3'.size; simp at this; omega
             clear hown3 hg3 hg3' hrest3 hrr3 hG3 hn3 hn3' hn3'' hz2)
          | (at_builtin; refine append_row_new rfl (.tmp 32) (.tmp 33) 42 rfl N 3 i0 _ 8 Try.underlying42 Hi0.out Hz0.out Hz1.out Hz2.out (by rfl) _ _ _ rfl Hown3.out ra (l.length - k) _ (intCells (l.drop k)) rfl Hrr3.out Hl2.out (intCells_one _) a5 a6 hN3 ?_; intro v4 w4 hown4 hg4 hn4
             have hG4 : wr.grownBy w4 (some g) := ⟨hg4.os.trans HG3.out.os, hg4.tape.trans HG3.out.tape, hg4.output.trans HG3.out.output, Nat.le_trans HG3.out.size hg4.size, fun q hq hne => by
               refine (hg4.block q (Nat.lt_of_lt_of_le hq HG3.out.size) (fun e => ?_)).trans (HG3.out.block q hq hne)
               rcases Hn3.out q e.symm with h | h
               · exact hne (by rw [h])
               · omega⟩
             have hn4' : ∀ q, v4.ownBlock = some q → q = g ∨ wr.heap.size ≤ q := fun q hq => by
               rcases hn4 with e | e
               · rw [e] at hq; exact Hn3.out q hq
               · right; rw [e] at hq; have := Option.some.inj hq; omega
             rw [show k + 1 + (l.length - k) = l.length + 1 by omega] at hown4
             obtain ⟨g', cap', rfl, _, _⟩ := own_form hown4 (by omega)
             have Hown4 := Lib.hid hown4; have HG4 := Lib.hid hG4; have Hn4 := Lib.hid (hn4' g' rfl)
             clear hown4 hg4 hG4 hn4 hn4'))
        go_ret
        refine ⟨g', cap', k, rfl, hcut.out, ?_, HG4.out, Hn4.out⟩
        have h := Hown4.out
        rw [show intCells (l.take k) ++ [Value.int .i64 x] ++ intCells (l.drop k) = intCells (l.take k ++ [x] ++ l.drop k) from by simp [intCells]] at h
        exact h
      · have d0 : (0 : Int) < (k : Int) := by omega
        have e1 : IntKind.i64.wrap ((k : Int) - 1) = (j : Int) := by rw [wrap_small (by omega) (by omega)]; omega
        have j0 : (0 : Int) ≤ (j : Int) := by omega
        have j1 : (j : Int) < (l.length : Int) := by omega
        clear h0 j1'
        go_wp2_with (first
          | (at_builtin; refine append_row rfl (.tmp 22) (.tmp 25) 42 rfl wr.heap.size 3 i0 _ 8 Try.underlying42 Hi0.out Hz0.out Hz1.out Hz2.out (by rfl) _ 0 (intCells []) rfl Hmk.out A2 (l.length - k) _ (intCells (l.drop k)) rfl HrM.out Hl2.out (intCells_one _) a7 a8 Hal.out.size ?_; intro v2 w2 hown2 hg2
             rw [Nat.zero_add] at hown2
             have hb2 := Below.grown Hal.out hg2 Hal.out.size (fun k hk => (Hmk.out.lt k hk).1)
             obtain ⟨ra, rc, rfl, hrr⟩ := own_row hown2 Hl2.out
             have hl' := own_take (own_keep Hown.out hb2 (fun k hk => (Hown.out.lt k hk).2)) hk
             rw [Htk.out] at hl'
             have Hb2 := Lib.hid hb2; have Hrest := Lib.hid (show w2.ownsRow wr.heap.size 3 1 (.slice ra (l.length - k) rc) (l.length - k) (intCells (l.drop k)) from hown2); have Hl' := Lib.hid hl'
             have hN2 : N ≤ w2.heap.size := Nat.le_trans HN.out hb2.size
             clear hown2 hg2 hb2 hrr hl')
          | (at_builtin; refine append_one_new rfl (.tmp 29) (.tmp 31) 42 rfl N 3 i0 _ 8 Try.underlying42 Hi0.out Hz0.out Hz1.out Hz2.out (by rfl) _ _ _ rfl Hl'.out (by rfl) _ rfl a3 a4 hN2 ?_; intro v3 w3 hown3 hg3 hn3
             have hg3' : (w2.alloc (.cells #[.int .i64 x] 3)).grownBy w3 (Value.slice (some ⟨g, 0, none⟩) k cap).ownBlock := hg3
             have hrest3 := (Hrest.out.alloc (.cells #[.int .i64 x] 3)).kept hg3' (by
               cases hq : (Value.slice ra (l.length - k) rc).ownBlock with
               | none => exact Or.inl rfl
               | some q =>
                 right
                 intro e
                 have h1 := (Hrest.out.lt q hq).1
                 have h2 : q = g := by have := Option.some.inj (e : some q = some g); exact this
                 omega)
             obtain ⟨ra', rc', e3, hrr3⟩ := own_row hrest3 Hl2.out
             cases e3
             have hG3 : wr.grownBy w3 (some g) := grown_trans (only_of_below (Hb2.out.alloc Hb2.out.size _) (some g)) hg3'
             have hz3 : wr.heap.size ≤ w3.heap.size := hG3.size
             have hn3' : v3.ownBlock = some g ∨ v3.ownBlock = some (w2.alloc (.cells #[.int .i64 x] 3)).heap.size := hn3
             have hz2 : wr.heap.size ≤ (w2.alloc (.cells #[.int .i64 x] 3)).heap.size := by have := Hb2.out.size; simp; omega
             have hn3'' : ∀ q, v3.ownBlock = some q → q = g ∨ wr.heap.size ≤ q := fun q hq => by
               rcases hn3' with e | e
               · left; rw [e] at hq; exact (Option.some.inj hq).symm
               · right; rw [e] at hq; have := Option.some.inj hq; omega
             have Hrr3 := Lib.hid hrr3; have Hown3 := Lib.hid hown3; have HG3 := Lib.hid hG3; have Hn3 := Lib.hid hn3''
             have hN3 : N ≤ w3.heap.size := by have := hg3'.size; simp at this; omega
             clear hown3 hg3 hg3' hrest3 hrr3 hG3 hn3 hn3' hn3'' hz2)
          | (at_builtin; refine append_row_new rfl (.tmp 32) (.tmp 33) 42 rfl N 3 i0 _ 8 Try.underlying42 Hi0.out Hz0.out Hz1.out Hz2.out (by rfl) _ _ _ rfl Hown3.out ra (l.length - k) _ (intCells (l.drop k)) rfl Hrr3.out Hl2.out (intCells_one _) a5 a6 hN3 ?_; intro v4 w4 hown4 hg4 hn4
             have hG4 : wr.grownBy w4 (some g) := ⟨hg4.os.trans HG3.out.os, hg4.tape.trans HG3.out.tape, hg4.output.trans HG3.out.output, Nat.le_trans HG3.out.size hg4.size, fun q hq hne => by
               refine (hg4.block q (Nat.lt_of_lt_of_le hq HG3.out.size) (fun e => ?_)).trans (HG3.out.block q hq hne)
               rcases Hn3.out q e.symm with h | h
               · exact hne (by rw [h])
               · omega⟩
             have hn4' : ∀ q, v4.ownBlock = some q → q = g ∨ wr.heap.size ≤ q := fun q hq => by
               rcases hn4 with e | e
               · rw [e] at hq; exact Hn3.out q hq
               · right; rw [e] at hq; have := Option.some.inj hq; omega
             rw [show k + 1 + (l.length - k) = l.length + 1 by omega] at hown4
             obtain ⟨g', cap', rfl, _, _⟩ := own_form hown4 (by omega)
             have Hown4 := Lib.hid hown4; have HG4 := Lib.hid hG4; have Hn4 := Lib.hid (hn4' g' rfl)
             clear hown4 hg4 hG4 hn4 hn4'))
        go_ret
        refine ⟨g', cap', k, rfl, hcut.out, ?_, HG4.out, Hn4.out⟩
        have h := Hown4.out
        rw [show intCells (l.take k) ++ [Value.int .i64 x] ++ intCells (l.drop k) = intCells (l.take k ++ [x] ++ l.drop k) from by simp [intCells]] at h
        exact h

namespace Cv
theorem actW_isP (L : List (List Int)) (w : List Int) : Mp.IsP (actW L w) := by
  unfold actW
  split
  · rename_i h; exact row_isP h
  · exact ⟨fun x h => (by cases h), List.nodup_nil⟩
theorem lifts_eq (L : List (List Int)) (w : List Int) : lifts L w = ((Mp.cycles (actW L w)).map fun r => (r.length : Int)).mergeSort := by
  unfold lifts actW
  split
  · rename_i h
    rw [cycles_row h]
    congr 1
    unfold Mp.natRows
    rw [List.map_map]
    exact List.map_congr_left fun c _ => by simp
  · rw [show Mp.cycles [] = [] from rfl]; simp
theorem cycles_few (L : List (List Int)) (w : List Int) : (Mp.cycles (actW L w)).length ≤ 5 := by
  have := lifts_len L w
  rw [lifts_eq, List.length_mergeSort, List.length_map] at this
  exact this
end Cv
theorem Cv.actW_len5 (L : List (List Int)) (w : List Int) : (Cv.actW L w).length ≤ 5 := by
  unfold Cv.actW
  split
  · rename_i h; rw [Cv.row_len]; exact h.1.2.2.2.2
  · simp
set_option maxRecDepth 10000 in
set_option maxHeartbeats 2000000 in
theorem spec_LiftLengths (a aw : Option Addr) (c cw : Nat) (L : List (List Int)) (l : List Int) (w : World) (ha : GridAt w a L) (hL : ∀ p ∈ L, p.length ≤ 1048576) (hn : L.length ≤ 1048576) (haw : RowAt w aw (intCells l)) (hl : l.length ≤ 1048576) :
    Calls Try.prog 66 #[.slice a L.length c, .slice aw l.length cw] w fun e w' => Gives w (Cv.lifts L l) e w' := by
  have hbA : Below w.heap.size w (w.alloc (.cells #[] 3)) := (Below.refl _ _).alloc (Nat.le_refl _) _
  have hA := spec_ActWord a aw c cw L l (w.alloc (.cells #[] 3)) (ha.below hbA) hL hn (haw.below hbA) hl
  have hC := fun ra rc W (h : RowAt W ra (intCells (Cv.actW L l))) => spec_l6CyclesP ra rc (Cv.actW L l) W h (Cv.actW_isP L l) (Nat.le_trans (Cv.actW_len5 L l) (by decide))
  rw [Cv.lifts_eq]
  have hfew := Cv.cycles_few L l
  generalize Mp.cycles (Cv.actW L l) = C at *
  generalize Cv.actW L l = A at *
  have hmk := own_made (w := w) rfl
  have Hmk := Lib.hid hmk; have HA := Lib.hid hA; have HC := Lib.hid hC; have HbA := Lib.hid hbA
  clear hA hC hbA ha haw hL hmk
  go_enter Try.func66, Try.ntmps66
  go_wp2_with fail
  refine HA.out.mono ?_
  rintro e w1 ⟨ra, rc, rfl, _, _, hf1, hb1⟩
  have Hf1 := Lib.hid hf1.row
  have hm1 := own_keep Hmk.out hb1 (fun k hk => (Hmk.out.lt k hk).2)
  have Hb1 := Lib.hid (HbA.out.trans (hb1.mono HbA.out.size)); have Hm1 := Lib.hid hm1
  clear hf1 hb1 hm1
  go_wp2_with fail
  refine (HC.out ra rc w1 Hf1.out).mono ?_
  rintro e w2 ⟨ca, cc, rfl, _, _, hg2, hb2⟩
  have hm2 := own_keep Hm1.out hb2 (fun k hk => (Hm1.out.lt k hk).2)
  have Hb2 := Lib.hid (Hb1.out.trans (hb2.mono Hb1.out.size)); have Hg2 := Lib.hid hg2
  have Hm2 := Lib.hid (show w2.ownsRow w.heap.size 3 1 (.slice (some ⟨w.heap.size, 0, none⟩) 0 0) 0 (intCells []) from hm2)
  have hlo : w.heap.size < w1.heap.size := by have := (Hm1.out.lt w.heap.size rfl).2; exact this
  have hhi : w1.heap.size ≤ w2.heap.size := hb2.size
  obtain ⟨lo, hlo'⟩ : ∃ lo, w1.heap.size = lo := ⟨_, rfl⟩
  obtain ⟨hi, hhi'⟩ : ∃ hi, w2.heap.size = hi := ⟨_, rfl⟩
  rw [hlo'] at hlo hhi
  rw [hhi'] at hhi
  have Hlo := Lib.hid hlo'; have Hhi := Lib.hid hhi'
  clear hg2 hb2 hm2 hlo' hhi'
  go_wp2
  go_loopw [5, 7] (fun ov iv wr => ∃ i : Nat, i ≤ C.length ∧ iv = .int .i64 i ∧ ∃ g cap, ov = .slice (some ⟨g, 0, none⟩) i cap ∧ (g < lo ∨ hi ≤ g) ∧ hi ≤ wr.heap.size ∧ Hid (Below w.heap.size w wr) ∧ Hid (GridIn wr lo hi ca C) ∧ Hid (∃ r : List Int, r.length = i ∧ wr.ownsRow w.heap.size 3 1 (.slice (some ⟨g, 0, none⟩) i cap) i (intCells r) ∧ r.Perm ((C.take i).map fun r => (r.length : Int)) ∧ r.Pairwise (· ≤ ·))) (fun _ iv _ => C.length - (intOf iv).toNat)
  case atStart => exact ⟨0, by omega, rfl, w.heap.size, 0, rfl, Or.inl hlo, by rw [Hhi.out]; exact Nat.le_refl _, Hb2, Lib.hid (by rw [← Hlo.out, ← Hhi.out]; exact Hg2.out), Lib.hid ⟨[], rfl, Hm2.out, List.Perm.refl _, List.Pairwise.nil⟩⟩
  case round =>
    obtain ⟨i, hi', rfl, g, cap, rfl, hgo, hsz, hb, hgr, hrow⟩ := hrel
    by_cases hlt : i < C.length
    · obtain ⟨q, hq⟩ := get_some hlt
      obtain ⟨b, o, ai, ci, rfl, hbw, hcell, _⟩ := hgr.out.grid.get hq
      obtain ⟨r, hrl, hown, hperm, hsort⟩ := hrow.out
      have hP := spec_l9Put w.heap.size g cap r (q.length : Int) wr (by rw [hrl]; exact hown) hb.out.size (by omega)
      rw [hrl] at hP
      have hnext : ∀ p, Cv.Cut r (q.length : Int) p → ((r.take p ++ [(q.length : Int)] ++ r.drop p).Perm ((C.take (i + 1)).map fun r => (r.length : Int)) ∧ (r.take p ++ [(q.length : Int)] ++ r.drop p).Pairwise (· ≤ ·) ∧ (r.take p ++ [(q.length : Int)] ++ r.drop p).length = i + 1) := fun p hp => by
        obtain ⟨hl2, rfl⟩ := List.getElem?_eq_some_iff.1 hq
        refine ⟨?_, Cv.cut_sorted hp hsort, ?_⟩
        · rw [List.take_succ_eq_append_getElem hl2, List.map_append]
          exact (Cv.cut_perm r _ p).trans (hperm.append_right _)
        · rw [(Cv.cut_perm r _ p).length_eq, List.length_append, hrl]; rfl
      have hglt := (hown.lt g rfl)
      have HP := Lib.hid hP; have Hnext := Lib.hid hnext; have Hrl := Lib.hid hrl
      have hi0 : (0 : Int) ≤ (i : Int) := by omega
      have hi1 : (i : Int) < (C.length : Int) := by omega
      clear hP hnext hown hperm hsort hrow hrl hq
      go_wp2_with fail
      refine HP.out.mono ?_
      rintro e w3 ⟨g', cap', p, rfl, hcut, hown3, hg3, hgg⟩
      have hN3 := Hnext.out p hcut
      have Hown3 := Lib.hid hown3; have Hg3 := Lib.hid hg3; have HN3 := Lib.hid hN3
      rw [Hrl.out] at Hown3
      rw [Hrl.out]
      clear hown3 hg3 hN3 hcut
      go_wp2
      go_roundw
      case rel =>
        refine ⟨i + 1, by omega, by go_num, g', cap', rfl, by rcases hgg with h | h <;> omega, Nat.le_trans hsz Hg3.out.size, Lib.hid (Below.grown hb.out Hg3.out hb.out.size (fun k hk => by cases hk; exact hglt.1)), Lib.hid ?_, Lib.hid ⟨_, HN3.out.2.2, Hown3.out, HN3.out.1, HN3.out.2.1⟩⟩
        exact hgr.out.only (Only.of_grown Hg3.out) (by omega)
      case measure => simp [intOf]; omega
    · obtain rfl : i = C.length := by omega
      obtain ⟨r, hrl, hown, hperm, hsort⟩ := hrow.out
      rw [List.take_of_length_le (Nat.le_refl _)] at hperm
      have hs := Cv.sort_eq hperm hsort
      have hg := own_gives hown hrl hb.out
      rw [← hs] at hg
      have Hg := Lib.hid hg
      clear hs hg hown hperm hsort hrow hrl
      go_wp2
      go_ret
      exact Hg.out
end Go.Proofs.Ytodgongemoabiaa
