/-
  Rows that a call holds in a block, each grown where it stands.
-/
import Derived.Test.YtamgimdjnmcpaaaDoorBase
import Derived.Test.YtamgimdjnmcpaaaDoorSlice
import Derived.Test.YtamgimdjnmcpaaaDoorIntRow
import Derived.Test.YtamgimdjnmcpaaaDoorInts
import Derived.Test.YtamgimdjnmcpaaaDoorOwn
import Derived.Test.YtamgimdjnmcpaaaDoorAppend
import Derived.Test.YtamgimdjnmcpaaaDoorGrid
import Derived.Test.YtamgimdjnmcpaaaDoorGridWalk
import Derived.Test.YtamgimdjnmcpaaaDoorGridRows
import Derived.Test.YtamgimdjnmcpaaaDoorGivesRows
import Derived.Deep.QuietTactic
import Derived.BigQuiet
import Derived.StillTailTactics
import Derived.Lib.SliceRun
namespace Go.Proofs.YtamgimdjnmcpaaaDoor
open Go.RowKit

theorem own_grownA {w w' : World} {base n g : Nat} {e : TypeId} {v : Value} {xs : List Value} (h : w.ownsRow base e 1 v n xs) (hg : w.grownBy w' (some g)) (hne : ∀ k, v.ownBlock = some k → k ≠ g) : w'.ownsRow base e 1 v n xs := by
  obtain ⟨hx, h0 | ⟨b, cap, cur, rfl, hb, hh, h2⟩⟩ := h
  · exact ⟨hx, Or.inl h0⟩
  · refine ⟨hx, Or.inr ⟨b, cap, cur, rfl, hb, ?_, h2⟩⟩
    have hlt : b < w.heap.size := by
      rcases Nat.lt_or_ge b w.heap.size with hl | hl
      · exact hl
      · rw [Array.getElem?_eq_none hl] at hh; cases hh
    rw [hg.block b hlt (fun e => hne b rfl (Option.some.inj e)), hh]
theorem Blk.otherOf {w : World} {a base n : Nat} {t e : TypeId} {cs : Array Value} {v : Value} {xs : List Value} (h : Blk w a t cs) (h' : w.ownsRow base e 1 v n xs) (ht : t ≠ e) : v.ownBlock ≠ some a := by
  intro hb
  obtain ⟨cur, hc⟩ := own_type h' a hb
  unfold Blk at h
  rw [h] at hc
  injection hc with hc; injection hc with _ hc _
  exact ht hc
/-- The rows hs lie in the block G as slices, each of the call's own, in a block of its own. -/
structure Sack (w : World) (N G : Nat) (hs : List Hd) : Prop where
  blk : Blk w G 24 (hdCells hs).toArray
  low : N ≤ G
  own : ∀ h ∈ hs, w.ownsRow N 3 1 h.val h.l.length (intCells h.l)
  apart : ∀ (i j : Nat) (h h' : Hd), i ≠ j → hs[i]? = some h → hs[j]? = some h' → ∀ b, h.val.ownBlock = some b → h'.val.ownBlock ≠ some b
theorem Sack.below {w w' : World} {N G : Nat} {hs : List Hd} (h : Sack w N G hs) (hb : Below w.heap.size w w') : Sack w' N G hs :=
  ⟨h.blk.below hb h.blk.lt, h.low, fun x hx => own_keep (h.own x hx) hb (fun k hk => ((h.own x hx).lt k hk).2), h.apart⟩
theorem Sack.cell {w : World} {N G i : Nat} {hs : List Hd} {x : Hd} (h : Sack w N G hs) (hx : hs[i]? = some x) : w.cell? ⟨G, i, none⟩ = some x.val := by
  obtain ⟨hi, rfl⟩ := List.getElem?_eq_some_iff.1 hx
  rw [h.blk.cell i, List.getElem?_toArray, hdCells_get hi]
theorem Sack.push {w w1 : World} {N G k : Nat} {v1 : Value} {hs : List Hd} {h : Hd} {x : Int} (hB : Sack w N G hs) (hk : hs[k]? = some h)
    (hown : w1.ownsRow N 3 1 v1 (h.l.length + 1) (intCells h.l ++ [.int .i64 x])) (hg : (w.alloc (.cells #[.int .i64 x] 3)).grownBy w1 h.val.ownBlock)
    (hn : v1.ownBlock = h.val.ownBlock ∨ v1.ownBlock = some (w.alloc (.cells #[.int .i64 x] 3)).heap.size) :
    ∃ h' : Hd, h'.l = h.l ++ [x] ∧ h'.val = v1 ∧ Sack (w1.setCell ⟨G, k, none⟩ v1) N G (hs.set k h') := by
  obtain ⟨a, c, rfl⟩ := own_len hown
  have hm := get_mem hk
  obtain ⟨hki, hke⟩ := List.getElem?_eq_some_iff.1 hk
  have hoh := hB.own h hm
  have hsz : (w.alloc (.cells #[.int .i64 x] 3)).heap.size = w.heap.size + 1 := by simp
  have hbk : Blk w1 G 24 (hdCells hs).toArray := (hB.blk.alloc _).grown hg (fun e => (hB.blk.otherOf hoh (by decide)) e.symm)
  have hset : ∀ {v : Value} {n : Nat} {xs : List Value}, w1.ownsRow N 3 1 v n xs → (w1.setCell ⟨G, k, none⟩ (.slice a (h.l.length + 1) c)).ownsRow N 3 1 v n xs := fun {v n xs} ho =>
    own_grownA ho (g := G) (only_setCell (World.grownBy.refl _ _) (Or.inl rfl) _) (fun b hb e => (hbk.otherOf ho (by decide)) (by rw [hb, e]))
  refine ⟨⟨a, c, h.l ++ [x]⟩, rfl, by simp [Hd.val], ?_, hB.low, fun y hy => ?_, fun i j y y' hij hi hj b hb => ?_⟩
  · have := hbk.put k (.slice a (h.l.length + 1) c)
    rw [List.setIfInBounds_toArray] at this
    rw [show hdCells (hs.set k ⟨a, c, h.l ++ [x]⟩) = (hdCells hs).set k (.slice a (h.l.length + 1) c) from by simp [hdCells, List.map_set, Hd.val]]
    exact this
  · rcases List.mem_or_eq_of_mem_set hy with hy2 | rfl
    · by_cases hyy : y.val.ownBlock = none ∨ y.val.ownBlock ≠ h.val.ownBlock
      · exact hset (((hB.own y hy2).alloc _).kept hg hyy)
      · -- the same block: the same row
        have hy3 : y.val.ownBlock ≠ none ∧ y.val.ownBlock = h.val.ownBlock := by
          constructor
          · intro e; exact hyy (Or.inl e)
          · exact Classical.byContradiction fun e => hyy (Or.inr e)
        obtain ⟨b, hb⟩ : ∃ b, y.val.ownBlock = some b := by
          cases hq : y.val.ownBlock with
          | none => exact absurd hq hy3.1
          | some b => exact ⟨b, rfl⟩
        obtain ⟨j, hj, hje⟩ := List.mem_iff_getElem.1 hy
        rw [List.length_set] at hj
        by_cases hjk : k = j
        · subst hjk
          rw [List.getElem_set_self] at hje
          rw [← hje]
          show (w1.setCell _ _).ownsRow N _ 1 (Hd.val ⟨a, c, h.l ++ [x]⟩) _ _
          unfold Hd.val
          simp only [List.length_append, List.length_singleton]
          rw [← intCells_snoc]
          exact hset hown
        · rw [List.getElem_set_ne hjk] at hje
          exact absurd (hy3.2 ▸ hb) (hB.apart j k y h (Ne.symm hjk) (by rw [List.getElem?_eq_getElem hj, hje]) hk b hb)
    · show (w1.setCell _ _).ownsRow N _ 1 (Hd.val ⟨a, c, h.l ++ [x]⟩) _ _
      unfold Hd.val
      simp only [List.length_append, List.length_singleton]
      rw [← intCells_snoc]
      exact hset hown
  · have hvb : ∀ b', (Hd.val ⟨a, c, h.l ++ [x]⟩).ownBlock = some b' → h.val.ownBlock = some b' ∨ b' = w.heap.size + 1 := fun b' hb' => by
      have e : (Hd.val ⟨a, c, h.l ++ [x]⟩).ownBlock = (Value.slice a (h.l.length + 1) c).ownBlock := by simp [Hd.val]
      rw [e] at hb'
      rcases hn with e2 | e2
      · left; rw [← e2]; exact hb'
      · right; rw [e2] at hb'; have := Option.some.inj hb'; omega
    have hold : ∀ {z : Hd} {m b' : Nat}, hs[m]? = some z → z.val.ownBlock = some b' → b' < w.heap.size := fun hz hb' => ((hB.own _ (get_mem hz)).lt _ hb').2
    rw [List.getElem?_set] at hi hj
    by_cases h1 : k = i
    · rw [if_pos h1, if_pos (by omega)] at hi
      have e1 := Option.some.inj hi
      subst e1
      rw [if_neg (by omega)] at hj
      intro hb2
      rcases hvb b hb with h3 | h3
      · exact hB.apart k j h y' (by omega) hk hj b h3 hb2
      · have := hold hj hb2; omega
    · rw [if_neg h1] at hi
      by_cases h2 : k = j
      · rw [if_pos h2, if_pos (by omega)] at hj
        have e1 := Option.some.inj hj
        subst e1
        intro hb2
        rcases hvb b hb2 with h3 | h3
        · exact hB.apart i k y h (by omega) hi hk b hb h3
        · have := hold hi hb; omega
      · rw [if_neg h2] at hj
        exact hB.apart i j y y' hij hi hj b hb
/-- Some of the rows, as a grid. -/
theorem Sack.grid {w w' : World} {N G : Nat} {hs : List Hd} {all : Array Value} {p : Hd → Bool} (h : Sack w N G hs) (hg : w.grownBy w' (some G)) (hb : Blk w' G 24 all) (hc : ∀ (i : Nat) v, (hdCells (hs.filter p))[i]? = some v → all[i]? = some v) :
    GridIn w' N w'.heap.size (some ⟨G, 0, none⟩) ((hs.filter p).map Hd.l) := by
  have hown : ∀ x ∈ hs, w'.ownsRow N 3 1 x.val x.l.length (intCells x.l) := fun x hx =>
    own_grownA (h.own x hx) hg (fun b hb e => (h.blk.otherOf (h.own x hx) (by decide)) (by rw [hb, e]))
  refine ⟨hs.filter p, rfl, Or.inr ⟨G, 0, all, rfl, h.low, hb.lt, hb, fun i v hv => by rw [Nat.zero_add]; exact hc i v hv⟩, fun x hx => ?_, ?_, fun x hx => ?_⟩
  · have ho := hown x (List.mem_filter.1 hx).1
    obtain ⟨a, c, e, _, hf⟩ := own_fresh ho (by rw [intCells_len])
    have e2 : a = x.a := by unfold Hd.val at e; injection e with e _ _; exact e.symm
    rw [e2] at hf
    exact RowIn.of_fresh hf
  · refine List.Pairwise.sublist (List.filter_sublist) ?_
    rw [List.pairwise_iff_getElem]
    intro i j hi hj hij
    by_cases h1 : hs[i].l = []
    · exact Or.inl h1
    by_cases h2 : hs[j].l = []
    · exact Or.inr (Or.inl h2)
    right; right
    intro g o g' o' e1 e2
    have a1 := h.apart i j _ _ (by omega) (List.getElem?_eq_getElem hi) (List.getElem?_eq_getElem hj)
    have f1 := own_form (h.own _ (List.getElem_mem hi)) (by cases hq : hs[i].l with | nil => exact absurd hq h1 | cons _ _ => simp)
    have f2 := own_form (h.own _ (List.getElem_mem hj)) (by cases hq : hs[j].l with | nil => exact absurd hq h2 | cons _ _ => simp)
    obtain ⟨g1, c1, q1, _, _⟩ := f1
    obtain ⟨g2, c2, q2, _, _⟩ := f2
    have r1 : hs[i].a = some ⟨g1, 0, none⟩ := by unfold Hd.val at q1; injection q1
    have r2 : hs[j].a = some ⟨g2, 0, none⟩ := by unfold Hd.val at q2; injection q2
    rw [r1] at e1; rw [r2] at e2
    cases e1; cases e2
    rintro rfl
    exact a1 _ (by rw [q1]; rfl) (by rw [q2]; rfl)
  · obtain ⟨a, c, e, hc', _⟩ := own_fresh (h.own x (List.mem_filter.1 hx).1) (by rw [intCells_len])
    have e2 : c = x.c := by unfold Hd.val at e; injection e with _ _ e; exact e.symm
    omega
/-- Empty rows. -/
theorem Sack.start {w : World} {N n : Nat} (hN : N ≤ w.heap.size) : Sack (w.alloc (.cells (hdCells (List.replicate n ⟨none, 0, []⟩)).toArray 24)) N w.heap.size (List.replicate n ⟨none, 0, []⟩) := by
  refine ⟨Blk.new w _ _, hN, fun h hh => ?_, fun i j h h' _ hi _ b hb => ?_⟩
  · rw [List.eq_of_mem_replicate hh]; exact World.ownsRow_nil _ _ _ _
  · rw [List.eq_of_mem_replicate (get_mem hi)] at hb; cases hb

set_option maxRecDepth 100000 in
theorem zero_intsA : ∀ w : World, (zeroValue 24).run Tryd.prog w = .ok (.slice none 0 0) w := fun w => by kernel_rfl
set_option maxRecDepth 100000 in
theorem mk_rowsA (n : Nat) (h1 : n ≤ 1000) (w : World) : (Instr.makeSlice 31 (.int .i64 (n : Int)) (.int .i64 (n : Int))).run Tryd.prog w = .ok (.slice (some ⟨w.heap.size, 0, none⟩) n n) (w.alloc (.cells (hdCells (List.replicate n ⟨none, 0, []⟩)).toArray 24)) := by
  obtain ⟨i0, hi, hz0, hz1, hz2⟩ := info_ints_parts
  have h := run_make_rowN (P := Tryd.prog) 31 24 i0 _ Tryd.underlying31 hi hz0 .i64 .i64 n n (Nat.le_refl _) (by rw [hz2]; omega) (by omega) w
  have e : madeCells (Value.slice none 0 0).cells (n * i0.size) = (hdCells (List.replicate n ⟨none, 0, []⟩)).toArray := by
    rw [hz1, Nat.mul_one]
    show madeCells #[Value.slice none 0 0] n = _
    rw [made_one]
    simp [hdCells, Hd.val]
  rw [e] at h
  exact h

/-- All of the rows, as a grid. -/
theorem Sack.all {w : World} {N G : Nat} {hs : List Hd} (h : Sack w N G hs) : GridIn w N w.heap.size (some ⟨G, 0, none⟩) (hs.map Hd.l) := by
  have hf : hs.filter (fun _ => true) = hs := List.filter_eq_self.2 (fun _ _ => rfl)
  have := Sack.grid (p := fun _ => true) h (World.grownBy.refl w _) h.blk (fun i v hv => by rw [hf] at hv; rw [List.getElem?_toArray]; exact hv)
  rwa [hf] at this
end Go.Proofs.YtamgimdjnmcpaaaDoor
