/-
  Rows that a call holds in a block, each grown where it stands; what slices.DeleteFunc leaves of them when the empty ones go.
-/
import Derived.Test.YtodgongemoabiaaBase
import Derived.Test.YtodgongemoabiaaSlice
import Derived.Test.YtodgongemoabiaaIntRow
import Derived.Test.YtodgongemoabiaaInts
import Derived.Test.YtodgongemoabiaaOwn
import Derived.Test.YtodgongemoabiaaAppend
import Derived.Test.YtodgongemoabiaaGrid
import Derived.Test.YtodgongemoabiaaGridWalk
import Derived.Test.YtodgongemoabiaaGridRows
import Derived.Test.YtodgongemoabiaaClass
import Derived.Test.YtodgongemoabiaaLab
import Derived.Test.YtodgongemoabiaaMap
import Derived.Test.YtodgongemoabiaaMapA
import Derived.Test.YtodgongemoabiaaMapB
import Derived.Test.YtodgongemoabiaaPut
import Derived.Deep.QuietTactic
import Derived.BigQuiet
import Derived.StillTailTactics
import Derived.Lib.SliceRun
namespace Go.Proofs.Ytodgongemoabiaa
open Go.RowKit

theorem Blk.other {w : World} {a base n : Nat} {t e : TypeId} {cs : Array Value} {v : Value} {xs : List Value} (h : Blk w a t cs) (h' : w.ownsRow base e 1 v n xs) (ht : t ≠ e) : v.ownBlock ≠ some a := by
  intro hb
  obtain ⟨cur, hc⟩ := own_type h' a hb
  unfold Blk at h
  rw [h] at hc
  injection hc with hc; injection hc with _ hc _
  exact ht hc
/-- The rows hs lie in the block G as slices, each of the call's own, in a block of its own. -/
structure Bag (w : World) (N G : Nat) (hs : List Hd) : Prop where
  blk : Blk w G 42 (hdCells hs).toArray
  low : N ≤ G
  own : ∀ h ∈ hs, w.ownsRow N 3 1 h.val h.l.length (intCells h.l)
  apart : ∀ (i j : Nat) (h h' : Hd), i ≠ j → hs[i]? = some h → hs[j]? = some h' → ∀ b, h.val.ownBlock = some b → h'.val.ownBlock ≠ some b
theorem Bag.below {w w' : World} {N G : Nat} {hs : List Hd} (h : Bag w N G hs) (hb : Below w.heap.size w w') : Bag w' N G hs :=
  ⟨h.blk.below hb h.blk.lt, h.low, fun x hx => own_keep (h.own x hx) hb (fun k hk => ((h.own x hx).lt k hk).2), h.apart⟩
theorem Bag.cell {w : World} {N G i : Nat} {hs : List Hd} {x : Hd} (h : Bag w N G hs) (hx : hs[i]? = some x) : w.cell? ⟨G, i, none⟩ = some x.val := by
  obtain ⟨hi, rfl⟩ := List.getElem?_eq_some_iff.1 hx
  rw [h.blk.cell i, List.getElem?_toArray, hdCells_get hi]
theorem Bag.push {w w1 : World} {N G k : Nat} {v1 : Value} {hs : List Hd} {h : Hd} {x : Int} (hB : Bag w N G hs) (hk : hs[k]? = some h)
    (hown : w1.ownsRow N 3 1 v1 (h.l.length + 1) (intCells h.l ++ [.int .i64 x])) (hg : (w.alloc (.cells #[.int .i64 x] 3)).grownBy w1 h.val.ownBlock)
    (hn : v1.ownBlock = h.val.ownBlock ∨ v1.ownBlock = some (w.alloc (.cells #[.int .i64 x] 3)).heap.size) :
    ∃ h' : Hd, h'.l = h.l ++ [x] ∧ h'.val = v1 ∧ Bag (w1.setCell ⟨G, k, none⟩ v1) N G (hs.set k h') := by
  obtain ⟨a, c, rfl⟩ := own_len hown
  have hm := get_mem hk
  obtain ⟨hki, hke⟩ := List.getElem?_eq_some_iff.1 hk
  have hoh := hB.own h hm
  have hsz : (w.alloc (.cells #[.int .i64 x] 3)).heap.size = w.heap.size + 1 := by simp
  have hbk : Blk w1 G 42 (hdCells hs).toArray := (hB.blk.alloc _).grown hg (fun e => (hB.blk.other hoh (by decide)) e.symm)
  have hset : ∀ {v : Value} {n : Nat} {xs : List Value}, w1.ownsRow N 3 1 v n xs → (w1.setCell ⟨G, k, none⟩ (.slice a (h.l.length + 1) c)).ownsRow N 3 1 v n xs := fun {v n xs} ho =>
    own_grown ho (g := G) (only_setCell (World.grownBy.refl _ _) (Or.inl rfl) _) (fun b hb e => (hbk.other ho (by decide)) (by rw [hb, e]))
  refine ⟨⟨a, c, h.l ++ [x]⟩, rfl, by simp [Hd.val], ?_, hB.low, fun y hy => ?_, fun i j y y' hij hi hj b hb => ?_⟩
  · have := hbk.put k (.slice a (h.l.length + 1) c)
    rw [List.setIfInBounds_toArray] at this
    rw [show hdCells (hs.set k ⟨a, c, h.l ++ [x]⟩) = (hdCells hs).set k (.slice a (h.l.length + 1) c) from by simp [hdCells, List.map_set, Hd.val]]
    exact this
  · rcases List.mem_or_eq_of_mem_set hy with hy2 | rfl
    · by_cases hyy : y.val.ownBlock = none ∨ y.val.ownBlock ≠ h.val.ownBlock
      · exact hset (((hB.own y hy2).alloc _).kept hg hyy)
      · -- the same block: the same row
        have hy3 : y.val.ownBlock ≠ none ∧ y.val.ownBlock = h.val.ownBlock := by
          constructor
          · intro e; exact hyy (Or.inl e)
          · exact Classical.byContradiction fun e => hyy (Or.inr e)
        obtain ⟨b, hb⟩ : ∃ b, y.val.ownBlock = some b := by
          cases hq : y.val.ownBlock with
          | none => exact absurd hq hy3.1
          | some b => exact ⟨b, rfl⟩
        obtain ⟨j, hj, hje⟩ := List.mem_iff_getElem.1 hy
        rw [List.length_set] at hj
        by_cases hjk : k = j
        · subst hjk
          rw [List.getElem_set_self] at hje
          rw [← hje]
          show (w1.setCell _ _).ownsRow N _ 1 (Hd.val ⟨a, c, h.l ++ [x]⟩) _ _
          unfold Hd.val
          simp only [List.length_append, List.length_singleton]
          rw [← intCells_snoc]
          exact hset hown
        · rw [List.getElem_set_ne hjk] at hje
          exact absurd (hy3.2 ▸ hb) (hB.apart j k y h (Ne.symm hjk) (by rw [List.getElem?_eq_getElem hj, hje]) hk b hb)
    · show (w1.setCell _ _).ownsRow N _ 1 (Hd.val ⟨a, c, h.l ++ [x]⟩) _ _
      unfold Hd.val
      simp only [List.length_append, List.length_singleton]
      rw [← intCells_snoc]
      exact hset hown
  · have hvb : ∀ b', (Hd.val ⟨a, c, h.l ++ [x]⟩).ownBlock = some b' → h.val.ownBlock = some b' ∨ b' = w.heap.size + 1 := fun b' hb' => by
      have e : (Hd.val ⟨a, c, h.l ++ [x]⟩).ownBlock = (Value.slice a (h.l.length + 1) c).ownBlock := by simp [Hd.val]
      rw [e] at hb'
      rcases hn with e2 | e2
      · left; rw [← e2]; exact hb'
      · right; rw [e2] at hb'; have := Option.some.inj hb'; omega
    have hold : ∀ {z : Hd} {m b' : Nat}, hs[m]? = some z → z.val.ownBlock = some b' → b' < w.heap.size := fun hz hb' => ((hB.own _ (get_mem hz)).lt _ hb').2
    rw [List.getElem?_set] at hi hj
    by_cases h1 : k = i
    · rw [if_pos h1, if_pos (by omega)] at hi
      have e1 := Option.some.inj hi
      subst e1
      rw [if_neg (by omega)] at hj
      intro hb2
      rcases hvb b hb with h3 | h3
      · exact hB.apart k j h y' (by omega) hk hj b h3 hb2
      · have := hold hj hb2; omega
    · rw [if_neg h1] at hi
      by_cases h2 : k = j
      · rw [if_pos h2, if_pos (by omega)] at hj
        have e1 := Option.some.inj hj
        subst e1
        intro hb2
        rcases hvb b hb2 with h3 | h3
        · exact hB.apart i k y h (by omega) hi hk b hb h3
        · have := hold hi hb; omega
      · rw [if_neg h2] at hj
        exact hB.apart i j y y' hij hi hj b hb
/-- Some of the rows, as a grid. -/
theorem Bag.grid {w w' : World} {N G : Nat} {hs : List Hd} {all : Array Value} {p : Hd → Bool} (h : Bag w N G hs) (hg : w.grownBy w' (some G)) (hb : Blk w' G 42 all) (hc : ∀ (i : Nat) v, (hdCells (hs.filter p))[i]? = some v → all[i]? = some v) :
    GridIn w' N w'.heap.size (some ⟨G, 0, none⟩) ((hs.filter p).map Hd.l) := by
  have hown : ∀ x ∈ hs, w'.ownsRow N 3 1 x.val x.l.length (intCells x.l) := fun x hx =>
    own_grown (h.own x hx) hg (fun b hb e => (h.blk.other (h.own x hx) (by decide)) (by rw [hb, e]))
  refine ⟨hs.filter p, rfl, Or.inr ⟨G, 0, all, rfl, h.low, hb.lt, hb, fun i v hv => by rw [Nat.zero_add]; exact hc i v hv⟩, fun x hx => ?_, ?_, fun x hx => ?_⟩
  · have ho := hown x (List.mem_filter.1 hx).1
    obtain ⟨a, c, e, _, hf⟩ := own_fresh ho (by rw [intCells_len])
    have e2 : a = x.a := by unfold Hd.val at e; injection e with e _ _; exact e.symm
    rw [e2] at hf
    exact RowIn.of_fresh hf
  · refine List.Pairwise.sublist (List.filter_sublist) ?_
    rw [List.pairwise_iff_getElem]
    intro i j hi hj hij
    by_cases h1 : hs[i].l = []
    · exact Or.inl h1
    by_cases h2 : hs[j].l = []
    · exact Or.inr (Or.inl h2)
    right; right
    intro g o g' o' e1 e2
    have a1 := h.apart i j _ _ (by omega) (List.getElem?_eq_getElem hi) (List.getElem?_eq_getElem hj)
    have f1 := own_form (h.own _ (List.getElem_mem hi)) (by cases hq : hs[i].l with | nil => exact absurd hq h1 | cons _ _ => simp)
    have f2 := own_form (h.own _ (List.getElem_mem hj)) (by cases hq : hs[j].l with | nil => exact absurd hq h2 | cons _ _ => simp)
    obtain ⟨g1, c1, q1, _, _⟩ := f1
    obtain ⟨g2, c2, q2, _, _⟩ := f2
    have r1 : hs[i].a = some ⟨g1, 0, none⟩ := by unfold Hd.val at q1; injection q1
    have r2 : hs[j].a = some ⟨g2, 0, none⟩ := by unfold Hd.val at q2; injection q2
    rw [r1] at e1; rw [r2] at e2
    cases e1; cases e2
    rintro rfl
    exact a1 _ (by rw [q1]; rfl) (by rw [q2]; rfl)
  · obtain ⟨a, c, e, hc', _⟩ := own_fresh (h.own x (List.mem_filter.1 hx).1) (by rw [intCells_len])
    have e2 : c = x.c := by unfold Hd.val at e; injection e with _ _ e; exact e.symm
    omega
/-- Empty rows. -/
theorem Bag.start {w : World} {N n : Nat} (hN : N ≤ w.heap.size) : Bag (w.alloc (.cells (hdCells (List.replicate n ⟨none, 0, []⟩)).toArray 42)) N w.heap.size (List.replicate n ⟨none, 0, []⟩) := by
  refine ⟨Blk.new w _ _, hN, fun h hh => ?_, fun i j h h' _ hi _ b hb => ?_⟩
  · rw [List.eq_of_mem_replicate hh]; exact World.ownsRow_nil _ _ _ _
  · rw [List.eq_of_mem_replicate (get_mem hi)] at hb; cases hb

theorem Bag.os_setCells {g : Nat} : ∀ (vs : List Value) (w : World) (o : Nat), (w.setCells g o vs).os = w.os
  | [], _, _ => rfl
  | v :: r, w, o => by rw [World.setCells, Bag.os_setCells r]; rfl
theorem Bag.tape_setCells {g : Nat} : ∀ (vs : List Value) (w : World) (o : Nat), (w.setCells g o vs).tape = w.tape
  | [], _, _ => rfl
  | v :: r, w, o => by rw [World.setCells, Bag.tape_setCells r]; rfl
theorem Bag.output_setCells {g : Nat} : ∀ (vs : List Value) (w : World) (o : Nat), (w.setCells g o vs).output = w.output
  | [], _, _ => rfl
  | v :: r, w, o => by rw [World.setCells, Bag.output_setCells r]; rfl
set_option maxRecDepth 100000 in
theorem zero_ints : ∀ w : World, (zeroValue 42).run Try.prog w = .ok (.slice none 0 0) w := fun w => by kernel_rfl
set_option maxRecDepth 100000 in
theorem mk_rows (n : Nat) (h1 : n ≤ 1000) (w : World) : (Instr.makeSlice 24 (.int .i64 (n : Int)) (.int .i64 (n : Int))).run Try.prog w = .ok (.slice (some ⟨w.heap.size, 0, none⟩) n n) (w.alloc (.cells (hdCells (List.replicate n ⟨none, 0, []⟩)).toArray 42)) := by
  obtain ⟨i0, hi, hz0, hz1, hz2⟩ := info_ints_parts
  have h := run_make_rowN (P := Try.prog) 24 42 i0 _ Try.underlying24 hi hz0 .i64 .i64 n n (Nat.le_refl _) (by rw [hz2]; omega) (by omega) w
  have e : madeCells (Value.slice none 0 0).cells (n * i0.size) = (hdCells (List.replicate n ⟨none, 0, []⟩)).toArray := by
    rw [hz1, Nat.mul_one]
    show madeCells #[Value.slice none 0 0] n = _
    rw [made_one]
    simp [hdCells, Hd.val]
  rw [e] at h
  exact h

def Hd.some (h : Hd) : Bool := !h.l.isEmpty
set_option maxRecDepth 10000 in
theorem impl_empty1 (a : Option Addr) (n c : Nat) (w : World) :
    Calls Try.prog 141 #[.slice a n c] w fun e w' => e = .returned (.bool (decide (n = 0))) ∧ w' = w := by
  by_cases h : n = 0
  · have hb : ((n : Int) == 0) = true := beq_iff_eq.2 (by omega)
    rw [decide_eq_true h]
    go_enter Try.func141, Try.ntmps141
    go_wp2
    go_ret
    exact ⟨rfl, rfl⟩
  · have hb : ((n : Int) == 0) = false := beq_eq_false_iff_ne.2 (by omega)
    rw [decide_eq_false h]
    go_enter Try.func141, Try.ntmps141
    go_wp2
    go_ret
    exact ⟨rfl, rfl⟩
theorem Hd.some_len {h : Hd} : h.some = !decide (h.l.length = 0) := by
  unfold Hd.some; cases h.l <;> simp
set_option maxRecDepth 10000 in
set_option maxHeartbeats 1000000 in
/-- The first empty row, or none. -/
theorem lib_IndexEmpty (G cap : Nat) (hs : List Hd) (w : World) (hk : Blk w G 42 (hdCells hs).toArray) (hn : hs.length ≤ 1000) :
    Calls Try.prog 179 #[.slice (some ⟨G, 0, none⟩) hs.length cap, .func (.func 141) #[] #[]] w fun e w' =>
      (∃ z : Int, e = .returned (.int .i64 z) ∧ ((z = -1 ∧ hs.filter Hd.some = hs) ∨ ∃ k : Nat, z = (k : Int) ∧ k < hs.length ∧ (hs.take k).filter Hd.some = hs.take k ∧ ∃ h, hs[k]? = some h ∧ h.some = false)) ∧ w' = w := by
  have Hk := Lib.hid hk
  clear hk
  go_enter Try.func179, Try.ntmps179
  go_wp2
  go_loopw [5, 8] (fun _ iv wr => ∃ i : Nat, i ≤ hs.length ∧ iv = .int .i64 i ∧ Hid ((hs.take i).filter Hd.some = hs.take i) ∧ wr = w) (fun _ iv _ => hs.length - (intOf iv).toNat)
  case atStart => exact ⟨0, by omega, rfl, Lib.hid rfl, rfl⟩
  case round =>
    obtain ⟨i, hi, rfl, hall, rfl⟩ := hrel
    by_cases hlt : i < hs.length
    · obtain ⟨h, hh⟩ := get_some hlt
      have hcell : wr.cell? ⟨G, i, none⟩ = some (.slice h.a h.l.length h.c) := by
        obtain ⟨hi', rfl⟩ := List.getElem?_eq_some_iff.1 hh
        rw [Hk.out.cell i, List.getElem?_toArray, hdCells_get hi']; rfl
      have hcl := impl_empty1 h.a h.l.length h.c wr
      have hlt' : (i : Int) < (hs.length : Int) := by omega
      have Hh := Lib.hid hh; clear hh
      by_cases he : h.l.length = 0
      · rw [decide_eq_true he] at hcl
        have Hs := Lib.hid (show h.some = false by rw [Hd.some_len, decide_eq_true he]; rfl)
        have Hcl := Lib.hid hcl
        clear he hcl
        go_wp2_with fail
        refine Hcl.out.mono ?_
        rintro e w3 ⟨rfl, hw3⟩
        rw [hw3]; clear hw3 w3
        go_wp2
        go_ret
        exact ⟨⟨_, rfl, Or.inr ⟨i, rfl, hlt, hall.out, h, Hh.out, Hs.out⟩⟩, rfl⟩
      · rw [decide_eq_false he] at hcl
        have Hs := Lib.hid (show h.some = true by rw [Hd.some_len, decide_eq_false he]; rfl)
        have Hcl := Lib.hid hcl
        clear he hcl
        go_wp2_with fail
        refine Hcl.out.mono ?_
        rintro e w3 ⟨rfl, hw3⟩
        rw [hw3]; clear hw3 w3
        go_wp2
        go_roundw
        case rel => exact ⟨i + 1, by omega, by go_num, Lib.hid (by
          obtain ⟨hi', e⟩ := List.getElem?_eq_some_iff.1 Hh.out
          rw [List.take_succ_eq_append_getElem hi', List.filter_append, hall.out, e, List.filter_cons, if_pos Hs.out, List.filter_nil]), trivial⟩
        case measure => simp [intOf]; omega
    · obtain rfl : i = hs.length := by omega
      rw [List.take_of_length_le (Nat.le_refl _)] at hall
      go_wp2
      go_ret
      exact ⟨⟨_, rfl, Or.inl ⟨rfl, hall.out⟩⟩, rfl⟩
/-- Where j rows were looked at, i of them kept. -/
def Kept (hs : List Hd) (all : Array Value) (j : Nat) : Prop :=
  all.size = hs.length ∧ (∀ (t : Nat) v, (hdCells ((hs.take j).filter Hd.some))[t]? = some v → all[t]? = some v) ∧ ∀ (t : Nat) (h : Hd), j ≤ t → hs[t]? = some h → all[t]? = some h.val
theorem Kept.len (hs : List Hd) (j : Nat) : ((hs.take j).filter Hd.some).length ≤ j := by
  have h1 := List.length_filter_le Hd.some (hs.take j)
  rw [List.length_take] at h1; omega
theorem Kept.next {hs : List Hd} {all : Array Value} {j : Nat} {h : Hd} (hk : Kept hs all j) (hh : hs[j]? = some h) (hs' : h.some = true) :
    Kept hs (all.setIfInBounds ((hs.take j).filter Hd.some).length h.val) (j + 1) ∧ ((hs.take (j + 1)).filter Hd.some).length = ((hs.take j).filter Hd.some).length + 1 := by
  obtain ⟨hi, e⟩ := List.getElem?_eq_some_iff.1 hh
  have hf : (hs.take (j + 1)).filter Hd.some = (hs.take j).filter Hd.some ++ [h] := by
    rw [List.take_succ_eq_append_getElem hi, List.filter_append, e, List.filter_cons, if_pos hs', List.filter_nil]
  have hl := Kept.len hs j
  refine ⟨⟨by rw [Array.size_setIfInBounds]; exact hk.1, fun t v hv => ?_, fun t x ht hx => ?_⟩, by rw [hf, List.length_append]; rfl⟩
  · rw [hf, ← hdCells_snoc, List.getElem?_append, hdCells_len] at hv
    rw [Array.getElem?_setIfInBounds]
    by_cases h1 : t < ((hs.take j).filter Hd.some).length
    · rw [if_pos h1] at hv
      rw [if_neg (by omega)]; exact hk.2.1 t v hv
    · rw [if_neg h1] at hv
      by_cases h2 : ((hs.take j).filter Hd.some).length = t
      · rw [if_pos h2, if_pos (by rw [hk.1]; omega)]
        rw [show t - ((hs.take j).filter Hd.some).length = 0 by omega] at hv
        exact hv
      · have : t - ((hs.take j).filter Hd.some).length ≠ 0 := by omega
        obtain ⟨m, hm⟩ : ∃ m, t - ((hs.take j).filter Hd.some).length = m + 1 := ⟨_, (Nat.succ_pred_eq_of_ne_zero this).symm⟩
        rw [hm] at hv; simp at hv
  · rw [Array.getElem?_setIfInBounds, if_neg (by omega)]
    exact hk.2.2 t x (by omega) hx
theorem Kept.skip {hs : List Hd} {all : Array Value} {j : Nat} {h : Hd} (hk : Kept hs all j) (hh : hs[j]? = some h) (hs' : h.some = false) :
    Kept hs all (j + 1) ∧ ((hs.take (j + 1)).filter Hd.some).length = ((hs.take j).filter Hd.some).length := by
  obtain ⟨hi, e⟩ := List.getElem?_eq_some_iff.1 hh
  have hf : (hs.take (j + 1)).filter Hd.some = (hs.take j).filter Hd.some := by
    rw [List.take_succ_eq_append_getElem hi, List.filter_append, e, List.filter_cons, if_neg (by rw [hs']; decide), List.filter_nil, List.append_nil]
  exact ⟨⟨hk.1, by rw [hf]; exact hk.2.1, fun t x ht hx => hk.2.2 t x (by omega) hx⟩, by rw [hf]⟩
set_option maxRecDepth 10000 in
set_option maxHeartbeats 2000000 in
theorem lib_DeleteEmpty (G : Nat) (hs : List Hd) (w : World) (hk : Blk w G 42 (hdCells hs).toArray) (hn : hs.length ≤ 1000) :
    Calls Try.prog 140 #[.slice (some ⟨G, 0, none⟩) hs.length hs.length, .func (.func 141) #[] #[]] w fun e w' =>
      e = .returned (.slice (some ⟨G, 0, none⟩) (hs.filter Hd.some).length hs.length) ∧ w.grownBy w' (some G) ∧ ∃ all, Blk w' G 42 all ∧ ∀ (i : Nat) v, (hdCells (hs.filter Hd.some))[i]? = some v → all[i]? = some v := by
  have hI := lib_IndexEmpty G hs.length hs w hk hn
  have HI := Lib.hid hI; have Hk := Lib.hid hk
  clear hI hk
  go_enter Try.func140, Try.ntmps140
  go_wp2_with fail
  refine HI.out.mono ?_
  rintro e w1 ⟨⟨z, rfl, hz⟩, hw1⟩
  rw [hw1]; clear hw1 w1
  rcases hz with ⟨rfl, hall⟩ | ⟨k, rfl, hkl, htk, h0, hh0, hs0⟩
  · have Hall := Lib.hid hall
    clear hall
    go_wp2
    go_ret
    exact ⟨by rw [Hall.out]; rfl, World.grownBy.refl _ _, _, Hk.out, fun i v hv => by rw [Hall.out] at hv; rw [List.getElem?_toArray]; exact hv⟩
  · have hne : ((k : Int) == -1) = false := beq_eq_false_iff_ne.2 (by omega)
    have hst : Kept hs (hdCells hs).toArray k := by
      refine ⟨by simp [hdCells_len], fun t v hv => ?_, fun t h _ hh => ?_⟩
      · rw [htk, show hdCells (hs.take k) = (hdCells hs).take k from by simp [hdCells, List.map_take], List.getElem?_take] at hv
        split at hv
        · rw [List.getElem?_toArray]; exact hv
        · cases hv
      · obtain ⟨hi, rfl⟩ := List.getElem?_eq_some_iff.1 hh
        rw [List.getElem?_toArray, hdCells_get hi]
    obtain ⟨hst1, hln1⟩ := hst.skip hh0 hs0
    have hlk : ((hs.take k).filter Hd.some).length = k := by rw [htk, List.length_take]; omega
    rw [hlk] at hln1
    have Hst := Lib.hid hst1; have Hln := Lib.hid hln1
    clear htk hst hst1 hln1 hlk hh0 hs0 h0
    go_wp2
    go_loopw [5, 6, 7] (fun iv jv _ wr => ∃ j : Nat, k + 1 ≤ j ∧ j ≤ hs.length ∧ jv = .int .i64 j ∧ ∃ i : Nat, i < j ∧ iv = .int .i64 i ∧ Hid (i = ((hs.take j).filter Hd.some).length) ∧ Hid (w.grownBy wr (some G)) ∧ Hid (∃ all, Blk wr G 42 all ∧ Kept hs all j)) (fun _ jv _ _ => hs.length - (intOf jv).toNat)
    case atStart => exact ⟨k + 1, Nat.le_refl _, by omega, by go_num, k, by omega, rfl, Lib.hid Hln.out.symm, Lib.hid (World.grownBy.refl _ _), Lib.hid ⟨_, Hk.out, Hst.out⟩⟩
    case round =>
      obtain ⟨j, hkj, hj, rfl, i, hij, rfl, hil, hgr, hkp⟩ := hrel
      by_cases hlt : j < hs.length
      · obtain ⟨h, hh⟩ := get_some hlt
        obtain ⟨all, hb, hkp2⟩ := hkp.out
        have hcell : wr.cell? ⟨G, j, none⟩ = some (.slice h.a h.l.length h.c) := by rw [hb.cell j]; exact hkp2.2.2 j h (Nat.le_refl _) hh
        have hdst : ∃ v, wr.cell? ⟨G, i, none⟩ = some v := by
          rw [hb.cell i]
          exact ⟨_, Array.getElem?_eq_getElem (by rw [hkp2.1]; omega)⟩
        obtain ⟨v0, hdst⟩ := hdst
        have hfz := hb.frozen i
        have hcl := impl_empty1 h.a h.l.length h.c wr
        have hlt' : (j : Int) < (hs.length : Int) := by omega
        have hi0 : (0 : Int) ≤ (i : Int) := by omega
        have hi1 : (i : Int) < (hs.length : Int) := by omega
        by_cases he : h.l.length = 0
        · rw [decide_eq_true he] at hcl
          have hsm : h.some = false := by rw [Hd.some_len, decide_eq_true he]; rfl
          obtain ⟨hn1, hn2⟩ := hkp2.skip hh hsm
          have Hn1 := Lib.hid hn1; have Hn2 := Lib.hid hn2; have Hcl := Lib.hid hcl; have Hb := Lib.hid hb
          clear he hcl hn1 hn2 hsm hh hkp2 hb hkp
          go_wp2_with fail
          refine Hcl.out.mono ?_
          rintro e w3 ⟨rfl, hw3⟩
          rw [hw3]; clear hw3 w3
          go_wp2
          go_roundw
          case rel => exact ⟨j + 1, by omega, by omega, by go_num, i, by omega, rfl, Lib.hid (by rw [Hn2.out]; exact hil.out), hgr, Lib.hid ⟨all, Hb.out, Hn1.out⟩⟩
          case measure => simp [intOf]; omega
        · rw [decide_eq_false he] at hcl
          have hsm : h.some = true := by rw [Hd.some_len, decide_eq_false he]; rfl
          obtain ⟨hn1, hn2⟩ := hkp2.next hh hsm
          rw [← hil.out] at hn1 hn2
          have hput := hb.put i h.val
          have Hn1 := Lib.hid hn1; have Hn2 := Lib.hid hn2; have Hcl := Lib.hid hcl; have Hput := Lib.hid hput
          clear he hcl hn1 hn2 hsm hh hkp2 hb hkp hput
          go_wp2_with fail
          refine Hcl.out.mono ?_
          rintro e w3 ⟨rfl, hw3⟩
          rw [hw3]; clear hw3 w3
          go_wp2
          go_roundw
          case rel => exact ⟨j + 1, by omega, by omega, by go_num, i + 1, by omega, by go_num, Lib.hid Hn2.out.symm, Lib.hid (only_setCell hgr.out (Or.inl rfl) _), Lib.hid ⟨_, Hput.out, Hn1.out⟩⟩
          case measure => simp [intOf]; omega
      · have hje : j = hs.length := by omega
        obtain ⟨all, hb, hkp2⟩ := hkp.out
        rw [hje] at hkp2 hil
        rw [List.take_of_length_le (Nat.le_refl _)] at hil
        have hcs := hkp2.2.1
        rw [List.take_of_length_le (Nat.le_refl _)] at hcs
        have hsz := hkp2.1
        have hcl : ∀ ty, (Builtin.clear_ #[24] ty #[.slice (some ⟨G, i, none⟩) (hs.length - i) (hs.length - i)]).run Try.prog wr = .ok (.tuple #[]) (wr.setCells G i (List.replicate (hs.length - i) (.slice none 0 0))) :=
          fun ty => Lib.run_clear_slice _ _ _ ty _ Try.underlying24 zero_ints rfl rfl G i _ _ (by omega) (fun t ht => by
            rw [hb.cell, Array.getElem?_eq_getElem (by omega)]; rfl) (fun t ht => by rw [hb.frozen])
        have hb2 := Pt.blk (List.replicate (hs.length - i) (.slice none 0 0)) i hb
        have hg2 : w.grownBy (wr.setCells G i (List.replicate (hs.length - i) (.slice none 0 0))) (some G) :=
          ⟨by rw [Bag.os_setCells]; exact hgr.out.os, by rw [Bag.tape_setCells]; exact hgr.out.tape, by rw [Bag.output_setCells]; exact hgr.out.output, by rw [Pt.size]; exact hgr.out.size, fun q hq hne => by
            rw [Pt.far (fun e => hne (by rw [e]))]; exact hgr.out.block q hq hne⟩
        have hfin : ∀ (t : Nat) v, (hdCells (hs.filter Hd.some))[t]? = some v → (Pt.putAll all i (List.replicate (hs.length - i) (.slice none 0 0)))[t]? = some v := fun t v hv => by
          have ht := (List.getElem?_eq_some_iff.1 hv).1
          rw [hdCells_len, ← hil.out] at ht
          rw [Pt.putAll_get, if_neg (by omega)]
          exact hcs t v hv
        have hc1 : ¬ hs.length = i := by omega
        have hi0 : (0 : Int) ≤ (i : Int) := by omega
        have hi1 : (i : Int) ≤ (hs.length : Int) := by omega
        have hi2 : i ≤ hs.length := by omega
        have hlt' : ¬ (j : Int) < (hs.length : Int) := by omega
        have Hcl := Lib.hid hcl; have Hb2 := Lib.hid hb2; have Hg2 := Lib.hid hg2; have Hfin := Lib.hid hfin
        clear hb2 hg2 hfin hcs hsz hkp2 hb hkp hje hcl
        have hcl := Hcl.out
        go_wp2
        go_ret
        exact ⟨by rw [← hil.out]; rfl, Hg2.out, _, Hb2.out, Hfin.out⟩
end Go.Proofs.Ytodgongemoabiaa
