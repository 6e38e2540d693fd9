/-
  The walks of the model's draws of words.
-/
import Derived.Test.YtamgimdjnmcpaaaGreatBase
import Derived.Test.YtamgimdjnmcpaaaGreatSlice
import Derived.Test.YtamgimdjnmcpaaaGreatInts
import Derived.Test.YtamgimdjnmcpaaaGreatWord
import Derived.Test.YtamgimdjnmcpaaaGreatIsWord
import Derived.Test.YtamgimdjnmcpaaaGreatReduce
import Derived.Test.YtamgimdjnmcpaaaGreatAppend
import Derived.Test.YtamgimdjnmcpaaaGreatBytes
import Derived.Test.YtamgimdjnmcpaaaGreatTurn
import Derived.Test.YtamgimdjnmcpaaaGreatDraw
namespace Go.Proofs.YtamgimdjnmcpaaaGreat
open Go.RowKit

/-- Some integers in memory of the call's own; the cursor goes on. -/
def Bent (w : World) (g most : Nat) (A : List Int → Prop) (e : Ending) (w' : World) : Prop := ∃ v l, e = .returned v ∧ w'.ownsRow w.heap.size 3 1 v (l : List Int).length (intCells l) ∧ l.length ≤ most ∧ A l ∧ CurAt w' g ∧ w.grownBy w' (some g)
theorem Bent.row {w w' : World} {g most : Nat} {A : List Int → Prop} {e : Ending} (h : Bent w g most A e w') : ∃ a c l, e = .returned (.slice a (l : List Int).length c) ∧ l.length ≤ c ∧ RowAt w' a (intCells l) ∧ l.length ≤ most ∧ A l ∧ CurAt w' g ∧ w.grownBy w' (some g) := by
  obtain ⟨v, l, rfl, ho, hm, hA, hc, hg⟩ := h
  obtain ⟨a, c, rfl, hle, hf⟩ := own_fresh ho (intCells_len l)
  exact ⟨a, c, l, rfl, hle, hf.row, hm, hA, hc, hg⟩
theorem grown_both {w wr w1 : World} {g : Nat} {row : Option Nat} (hg : w.grownBy wr (some g)) (h1 : wr.grownBy w1 row) (hr : ∀ k, row = some k → w.heap.size ≤ k) : w.grownBy w1 (some g) :=
  ⟨h1.os.trans hg.os, h1.tape.trans hg.tape, h1.output.trans hg.output, Nat.le_trans hg.size h1.size, fun i hi hne => (h1.block i (Nat.lt_of_lt_of_le hi hg.size) (fun e => by have := hr i e.symm; omega)).trans (hg.block i hi hne)⟩

theorem own_cur {w w' : World} {base n g : Nat} {e : TypeId} {v : Value} {xs : List Value} (h : w.ownsRow base e 1 v n xs) (hg : w.grownBy w' (some g)) (hgl : g < base) : w'.ownsRow base e 1 v n xs :=
  h.kept hg (by
    rcases h.2 with ⟨hv, _⟩ | ⟨k, cap, cur, hv, hk, _⟩
    · left; rw [hv]; rfl
    · right; rw [hv]; simp [Value.ownBlock]; omega)
def sliceLen' : Value → Nat
  | .slice _ n _ => n
  | _ => 0
def Small (l : List Int) : Prop := ∀ x ∈ l, -9 ≤ x ∧ x ≤ 9

set_option maxRecDepth 10000 in
set_option maxHeartbeats 1000000 in
theorem l2Draw (g most : Nat) (letters m : Int) (w : World) (hc : CurAt w g) (hl1 : 1 ≤ letters) (hl8 : letters ≤ 8) (hm : most ≤ 100) (hmm : m = (most : Int)) :
    Calls Tryz.prog 37 #[.pointer (some ⟨g, 0, none⟩), .int .i64 letters, .int .i64 m] w (Bent w g most (fun l => ∀ x ∈ l, Word.Letter x)) := by
  obtain ⟨i0, hi0, hz0, hz1, hz2⟩ := info_int_parts
  have Hi0 := Lib.hid hi0; have Hz0 := Lib.hid hz0; have Hz1 := Lib.hid hz1; have Hz2 := Lib.hid hz2
  clear hi0 hz0 hz1 hz2
  have Hmm := Lib.hid hmm
  have hm0 : 0 ≤ m := by omega
  have hm1 : m ≤ 100 := by omega
  clear hmm
  have hgl := hc.lt
  have hc1 : CurAt (w.alloc (.cells #[] 3)) g := hc.alloc _
  have hg1 : w.grownBy (w.alloc (.cells #[] 3)) (some g) := only_of_below ((Below.refl _ w).alloc (Nat.le_refl _) _) _
  go_enter Tryz.func37, Tryz.ntmps37
  go_wp2_with fail
  refine (l1Below g (m + 1) _ hc1 (by omega) (by omega)).mono ?_
  rintro e w1 ⟨⟨n0, rfl, hn0, hn1⟩, hc1', hg1'⟩
  have ho := (own_made (w := w) rfl).kept hg1' (.inr (by simp [Value.ownBlock]; omega))
  have hgw := hg1.trans hg1'
  go_wp2
  go_loopw [7, 8, 9] (fun ov nv _ wr => ∃ (r : Nat) (l : List Int), nv = .int .i64 r ∧ r + l.length ≤ most ∧ wr.ownsRow w.heap.size 3 1 ov l.length (intCells l) ∧ Hid (∀ x ∈ l, Word.Letter x) ∧ Hid (CurAt wr g ∧ w.grownBy wr (some g))) (fun _ nv _ _ => (intOf nv).toNat)
  case atStart => exact ⟨n0.toNat, [], by rw [show ((n0.toNat : Nat) : Int) = n0 from by omega], by have := Hmm.out; simp; omega, ho, Lib.hid (fun _ h => by cases h), Lib.hid ⟨hc1', hgw⟩⟩
  case round =>
    obtain ⟨r, l, rfl, hrl, hown, hL, hcg⟩ := hrel
    obtain ⟨av, cv, rfl⟩ := own_len hown
    by_cases hr : r = 0
    · subst hr
      have Hown := Lib.hid hown; clear hown
      go_wp2
      go_ret
      exact ⟨_, l, rfl, Hown.out, by omega, hL.out, hcg.out.1, hcg.out.2⟩
    · have hr' : (0 : Int) < (r : Int) := by omega
      have hsz0 : w.heap.size ≤ wr.heap.size := hcg.out.2.size
      have Hown := Lib.hid hown; clear hown
      go_wp2_with fail
      refine (l1Below g letters wr hcg.out.1 (by omega) (by omega)).mono ?_
      rintro e w2 ⟨⟨x, rfl, hx0, hx1⟩, hc2, hg2⟩
      have hown2 := own_cur Hown.out hg2 hgl
      have Hown2 := Lib.hid hown2; clear hown2 Hown
      go_wp2_with fail
      refine (l1Once g 2 w2 hc2 (by omega) (by omega)).mono ?_
      rintro e w3 ⟨⟨neg, rfl⟩, hc3, hg3⟩
      have hown3 := own_cur Hown2.out hg3 hgl
      have hgw3 := (hcg.out.2.trans hg2).trans hg3
      have Hgw3 := Lib.hid hgw3; have Hc3 := Lib.hid hc3
      have hNle : w.heap.size ≤ w3.heap.size := hgw3.size
      have hq1 : l.length + 1 ≤ maxLen := by unfold maxLen; omega
      have hq2 : (l.length + 1) * 8 ≤ 140737488355328 := by omega
      clear hgw3 hc3 hc2 hg2 hg3 Hown2
      cases neg with
      | false =>
        go_wp2_with (at_builtin; refine append_one rfl (.tmp 27) (.tmp 29) 30 rfl w.heap.size 3 i0 _ 8 Tryz.underlying30 Hi0.out Hz0.out Hz1.out Hz2.out (by rfl) _ _ _ rfl hown3 (by rfl) _ rfl hq1 hq2 hNle ?_; intro v1 w4 hown4 hg4 _)
        go_roundw
        case rel =>
          have hrow : ∀ k, (Value.slice av l.length cv).ownBlock = some k → w.heap.size ≤ k := fun k hk => (hown3.lt k hk).1
          refine ⟨r - 1, l ++ [1 + x], by go_num, by simp; omega, ?_, Lib.hid ?_, Lib.hid ⟨(Hc3.out.alloc _).above hg4 (fun k hk => by have := hrow k hk; omega), grown_both (Hgw3.out.trans (World.grownBy_alloc _ _ _)) hg4 hrow⟩⟩
          · rw [List.length_append, ← intCells_snoc]; exact hown4
          · intro y hy
            rcases List.mem_append.1 hy with h | h
            · exact hL.out y h
            · simp at h; rw [h, Word.letter_iff]; omega
        case measure => simp [intOf]; omega
      | true =>
        go_wp2_with (at_builtin; refine append_one rfl (.tmp 27) (.tmp 29) 30 rfl w.heap.size 3 i0 _ 8 Tryz.underlying30 Hi0.out Hz0.out Hz1.out Hz2.out (by rfl) _ _ _ rfl hown3 (by rfl) _ rfl hq1 hq2 hNle ?_; intro v1 w4 hown4 hg4 _)
        go_roundw
        case rel =>
          have hrow : ∀ k, (Value.slice av l.length cv).ownBlock = some k → w.heap.size ≤ k := fun k hk => (hown3.lt k hk).1
          refine ⟨r - 1, l ++ [-(1 + x)], by go_num, by simp; omega, ?_, Lib.hid ?_, Lib.hid ⟨(Hc3.out.alloc _).above hg4 (fun k hk => by have := hrow k hk; omega), grown_both (Hgw3.out.trans (World.grownBy_alloc _ _ _)) hg4 hrow⟩⟩
          · rw [List.length_append, ← intCells_snoc]; exact hown4
          · intro y hy
            rcases List.mem_append.1 hy with h | h
            · exact hL.out y h
            · simp at h; rw [h, Word.letter_iff]; omega
        case measure => simp [intOf]; omega

end Go.Proofs.YtamgimdjnmcpaaaGreat
