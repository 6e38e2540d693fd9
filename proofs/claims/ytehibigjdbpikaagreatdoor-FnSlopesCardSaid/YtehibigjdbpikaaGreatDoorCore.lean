/-
  The walks of the program's and the model's CoreWord.
-/
import Derived.Test.YtehibigjdbpikaaGreatDoorBase
import Derived.Test.YtehibigjdbpikaaGreatDoorSlice
import Derived.Test.YtehibigjdbpikaaGreatDoorInts
import Derived.Test.YtehibigjdbpikaaGreatDoorWord
import Derived.Test.YtehibigjdbpikaaGreatDoorIsWord
import Derived.Test.YtehibigjdbpikaaGreatDoorReduce
import Derived.Test.YtehibigjdbpikaaGreatDoorReduceSpec
import Derived.Test.YtehibigjdbpikaaGreatDoorAppend
import Derived.Deep.QuietTactic
import Derived.BigQuiet
namespace Go.Proofs.YtehibigjdbpikaaGreatDoor
open Go.RowKit

def sliceLen : Value → Nat
  | .slice _ n _ => n
  | _ => 0
/-- What a loop of CoreWord has in hand. -/
def CoreAt (w : World) (N : Nat) (X : List Int) (v : Value) : Prop :=
  ∃ (cur : List Int) (a : Option Addr) (c : Nat), v = .slice a cur.length c ∧ cur.length ≤ c ∧ c ≤ maxLen ∧ Fresh w N 3 a (intCells cur) ∧ Word.core cur = Word.core X ∧ (∀ x ∈ cur, -8 ≤ x ∧ x ≤ 8) ∧ cur.length ≤ X.length
theorem Fresh.cellAt {w : World} {base : Nat} {t : TypeId} {a : Option Addr} {l : List Int} (h : Fresh w base t a (intCells l)) {i : Nat} (hi : i < l.length) : ∃ b o, a = some ⟨b, o, none⟩ ∧ base ≤ b ∧ ∀ j, (hj : j < l.length) → w.cell? ⟨b, o + j, none⟩ = some (.int .i64 l[j]) := by
  rcases h with h | ⟨g, o, all, rfl, hg, hk, hc⟩
  · have := intCells_len l; rw [h] at this; simp at this; omega
  · exact ⟨g, o, rfl, hg, fun j hj => by rw [hk.cell]; exact hc j _ (intCells_get hj)⟩
theorem core_nil : Word.core [] = [] := Word.core_short (by simp)
theorem red_small {l : List Int} (h : Word.IsW l) : ∀ x ∈ Word.red l, -8 ≤ x ∧ x ≤ 8 := fun x hx => ⟨((Word.red_w h).1 x hx).2.1, ((Word.red_w h).1 x hx).2.2⟩
theorem reduce_small (l : List Int) : ∀ x ∈ Word.reduce l, -8 ≤ x ∧ x ≤ 8 := by
  unfold Word.reduce
  split
  · exact red_small ‹_›
  · intro x hx; cases hx
theorem reduce_len (l : List Int) : (Word.reduce l).length ≤ 24 := by
  unfold Word.reduce
  split
  · rename_i h; exact (Word.red_w h).2
  · simp
theorem coreOf_eq (l : List Int) : Word.core (Word.reduce l) = Word.coreOf l := by
  unfold Word.reduce Word.coreOf
  split
  · rfl
  · exact core_nil

theorem own_madeN {N : Nat} {w : World} (h : N ≤ w.heap.size) (q : Nat) : ((w.drewN q).alloc (.cells #[] 3)).ownsRow N 3 1 (.slice (some ⟨w.heap.size, 0, none⟩) 0 0) 0 (intCells []) :=
  World.ownsRow_made (base := N) (e := 3) (size := 1) (w.drewN q) #[] 0 h (by unfold maxLen; omega) (by rfl)
theorem row_made {w : World} {a : Option Addr} {cs : List Value} (h : RowAt w a cs) (q : Nat) {o : Obj} : RowAt ((w.drewN q).alloc o) a cs :=
  h.below ((below_drewN (Below.refl _ w) q).alloc (Nat.le_refl _) _)

set_option maxRecDepth 10000 in
set_option maxHeartbeats 400000 in
theorem spec_l2Core (a : Option Addr) (c : Nat) (l : List Int) (w : World) (ha : RowAt w a (intCells l)) (hl : l.length ≤ 24) (hW : Word.IsW l) :
    Calls Tryz.prog 105 #[.slice a l.length c] w fun e w' => Gives w (Word.core (Word.red l)) e w' := by
  have hR := spec_l2Reduce a c l w ha (by omega) hW.1
  have hsm := red_small hW
  have hln := (Word.red_w hW).2
  clear hW
  generalize hX : Word.red l = X at *
  clear hX
  have HR := Lib.hid hR; have Hsm := Lib.hid hsm
  clear hR hsm
  obtain ⟨i0, hi0, hz0, hz1, hz2⟩ := info_int_parts
  have Hi0 := Lib.hid hi0; have Hz0 := Lib.hid hz0; have Hz1 := Lib.hid hz1; have Hz2 := Lib.hid hz2
  clear hi0 hz0 hz1 hz2
  generalize hN : w.heap.size = N at *
  have HN := Lib.hid hN
  go_enter Tryz.func105, Tryz.ntmps105
  go_wp2_with fail
  refine HR.out.mono ?_
  rintro e w1 ⟨a1, c1, rfl, hc1, hm1, hf1, hb1⟩
  rw [hN] at hf1 hb1
  go_wp2
  clear hN
  go_loopw [3] (fun cv wr => Hid (CoreAt wr N X cv) ∧ Below N w wr) (fun cv _ => sliceLen cv)
  case atStart => exact ⟨Lib.hid ⟨X, a1, c1, rfl, hc1, hm1, hf1, rfl, Hsm.out, Nat.le_refl _⟩, hb1⟩
  case round =>
    obtain ⟨hat, hb⟩ := hrel
    obtain ⟨cur, a', c', rfl, hcc, hcm, hf, hco, hcs, hcl⟩ := hat.out
    have Hf := Lib.hid hf; have Hco := Lib.hid hco; have Hcs := Lib.hid hcs
    clear hat hco hcs
    have hbb : Below N w wr := hb
    unfold maxLen at hcm
    by_cases hk2 : cur.length < 2
    · have Hs := Lib.hid (Word.core_short hk2)
      clear hf
      have hk : decide ((2 : Int) ≤ (cur.length : Int)) = false := by simp; omega
      have hrow := Hf.out.row
      have hNle : N ≤ wr.heap.size := by have := hb.size; rw [HN.out] at this; exact this
      have hq1 : 0 + cur.length ≤ maxLen := by unfold maxLen; omega
      have hq2 : (0 + cur.length) * 8 ≤ 140737488355328 := by omega
      have Hrow := Lib.hid hrow; clear hrow
      go_wp2
      go_quiet (fail)
      all_goals go_wp2_with (at_builtin; refine append_row rfl (.tmp 27) (.tmp 28) 26 rfl N 3 i0 _ 8 Tryz.underlying26 Hi0.out Hz0.out Hz1.out Hz2.out (by rfl) _ _ _ rfl (own_madeN hNle _) _ _ _ _ rfl (row_made Hrow.out _) (by rw [intCells_len]) (intCells_one _) hq1 hq2 (by simp; omega) ?_; intro v1 w1 hown1 hg1; obtain ⟨av1, cv1, rfl⟩ := own_len hown1)
      all_goals
        go_ret
        have Hown := Lib.hid hown1
        rw [← Hco.out, Hs.out]
        refine own_gives (n := 0 + cur.length) (by rw [HN.out]; simpa [intCells] using Hown.out) (by omega) ?_
        rw [HN.out]
        exact Below.grown ((below_drewN hb _).alloc hNle _) hg1 (by simp; omega) (fun k hk => by injection hk with hk; rw [← hk]; exact hNle)
    · obtain ⟨k, hk⟩ : ∃ k, cur.length = k + 2 := ⟨cur.length - 2, by omega⟩
      obtain ⟨b, o, rfl, hbN, hcell⟩ := hf.cellAt (i := 0) (by omega)
      have hcx := hcell 0 (by omega)
      have hcy := hcell (k + 1) (by omega)
      have hsx := Hcs.out cur[0] (List.getElem_mem _)
      have hsy := Hcs.out cur[k + 1] (List.getElem_mem _)
      have hgx : cur[0]? = some cur[0] := List.getElem?_eq_getElem _
      have hgy : cur[k + 1]? = some cur[k + 1] := List.getElem?_eq_getElem _
      generalize cur[0] = x at *
      generalize cur[k + 1] = y at *
      clear hf hcell
      rw [Nat.add_zero] at hcx
      have h0k : (0 : Int) ≤ (k : Int) + 1 := by omega
      have hkk : (k : Int) + 1 < (k : Int) + 2 := by omega
      have h0k' : (0 : Int) < (k : Int) + 2 := by omega
      have hd2 : decide ((2 : Int) ≤ (k : Int) + 2) = true := by simp; omega
      by_cases he : x = -y
      · have Hst := Lib.hid (Word.core_step hk hgx hgy he)
        have Hgx := Lib.hid hgx; have Hgy := Lib.hid hgy
        clear hgx hgy
        have Hk := Lib.hid hk
        rw [hk] at hcc ⊢
        clear hk
        subst he
        go_wp2
        go_quiet (fail)
        all_goals go_wp2
        all_goals
          go_roundw
          case rel =>
            refine ⟨Lib.hid ⟨Word.mid cur, _, _, by rw [Word.mid_len, Hk.out]; rfl, ?_, ?_, ?_, ?_, ?_, ?_⟩, below_drewN hb _⟩
            · rw [Word.mid_len, Hk.out]; omega
            · unfold maxLen; omega
            · exact Fresh.part Hf.out 1 (fun i v hv => by
                have hi := (List.getElem?_eq_some_iff.1 hv).1
                rw [intCells_len, Word.mid_len] at hi
                simp only [intCells, List.getElem?_map] at hv ⊢
                rw [← Word.mid_get (by omega)]; exact hv)
            · rw [← Hst.out]; exact Hco.out
            · exact fun z hz => Hcs.out z (Word.mid_mem hz)
            · rw [Word.mid_len]; omega
          case measure => simp [sliceLen]
      · have Hst := Lib.hid (Word.core_stop hk hgx hgy he)
        have Hgx := Lib.hid hgx; have Hgy := Lib.hid hgy
        clear hgx hgy
        have Hk := Lib.hid hk
        rw [hk] at hcc ⊢
        clear hk
        have hrow := Hf.out.row
        have hNle : N ≤ wr.heap.size := by have := hb.size; rw [HN.out] at this; exact this
        have hcl2 : k + 2 ≤ 24 := by rw [Hk.out] at hcl; omega
        have hq1 : 0 + (k + 2) ≤ maxLen := by unfold maxLen; omega
        have hq2 : (0 + (k + 2)) * 8 ≤ 140737488355328 := by omega
        have Hrow := Lib.hid hrow; clear hrow
        go_wp2
        go_quiet (fail)
        all_goals go_wp2_with (at_builtin; refine append_row rfl (.tmp 27) (.tmp 28) 26 rfl N 3 i0 _ 8 Tryz.underlying26 Hi0.out Hz0.out Hz1.out Hz2.out (by rfl) _ _ _ rfl (own_madeN hNle _) _ _ _ _ rfl (row_made Hrow.out _) (by rw [intCells_len]; exact Hk.out) (intCells_one _) hq1 hq2 (by simp; omega) ?_; intro v1 w1 hown1 hg1; obtain ⟨av1, cv1, rfl⟩ := own_len hown1)
        all_goals
          go_ret
          have Hown := Lib.hid hown1
          rw [← Hco.out, Hst.out]
          refine own_gives (n := 0 + (k + 2)) (by rw [HN.out]; simpa [intCells] using Hown.out) (by rw [Hk.out]; omega) ?_
          rw [HN.out]
          exact Below.grown ((below_drewN hb _).alloc hNle _) hg1 (by simp; omega) (fun k hk => by injection hk with hk; rw [← hk]; exact hNle)
set_option maxRecDepth 10000 in
set_option maxHeartbeats 400000 in
theorem spec_CoreWord (a : Option Addr) (c : Nat) (l : List Int) (w : World) (ha : RowAt w a (intCells l)) (hl : l.length ≤ 1048576) :
    Calls Tryz.prog 61 #[.slice a l.length c] w fun e w' => Gives w (Word.coreOf l) e w' := by
  have hcW := spec_IsWord a c l w ha hl
  by_cases hW : Word.IsW l
  · rw [decide_eq_true hW] at hcW
    have Hcw := Lib.hid hcW; clear hcW
    have HW := Lib.hid hW; clear hW
    go_enter Tryz.func61, Tryz.ntmps61
    go_wp2_with fail
    refine Hcw.out.mono ?_
    rintro e w1 ⟨rfl, hb1⟩
    go_wp2_with fail
    refine (spec_l2Core a c l w1 (ha.below hb1) HW.out.2 HW.out).mono ?_
    rintro e w2 hg
    have Hg := Lib.hid (hg.later hb1)
    obtain ⟨a', c', rfl, _, _, _, _⟩ := hg
    go_wp2
    go_ret
    rw [show Word.coreOf l = Word.core (Word.red l) from if_pos HW.out]
    exact Hg.out
  · rw [decide_eq_false hW] at hcW
    have Hcw := Lib.hid hcW; clear hcW
    have HW := Lib.hid hW; clear hW
    go_enter Tryz.func61, Tryz.ntmps61
    go_wp2_with fail
    refine Hcw.out.mono ?_
    rintro e w1 ⟨rfl, hb1⟩
    go_wp2
    go_ret
    rw [show Word.coreOf l = [] from if_neg HW.out]
    exact own_gives (by exact own_mono (own_made (w := w1) rfl) hb1.size) rfl (hb1.alloc hb1.size _)
theorem coreOf_len (l : List Int) : (Word.coreOf l).length ≤ 24 := by
  rw [← coreOf_eq]
  exact Nat.le_trans (Word.core_len _) (reduce_len l)
end Go.Proofs.YtehibigjdbpikaaGreatDoor
