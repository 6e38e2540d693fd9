/-
  Rows of rows of integers: their cells, the blocks in which they lie, what is written into some blocks alone.
-/
import Derived.Test.YtehibigjdbpikaaDoorBase
import Derived.Test.YtehibigjdbpikaaDoorSlice
import Derived.Test.YtehibigjdbpikaaDoorIntRow
import Derived.Test.YtehibigjdbpikaaDoorInts
namespace Go.Proofs.YtehibigjdbpikaaDoor
open Go.RowKit

/-- An inner row as the outer one holds it. -/
structure Hd where
  a : Option Addr
  c : Nat
  l : List Int
def Hd.val (h : Hd) : Value := .slice h.a h.l.length h.c
def hdCells (hs : List Hd) : List Value := hs.map Hd.val
theorem hdCells_len (hs : List Hd) : (hdCells hs).length = hs.length := by simp [hdCells]
theorem hdCells_get {hs : List Hd} {i : Nat} (hi : i < hs.length) : (hdCells hs)[i]? = some hs[i].val := by simp [hdCells, hi]
theorem hdCells_one (hs : List Hd) : ∀ u ∈ hdCells hs, u.oneCell' = true := by
  intro u hu
  simp only [hdCells, List.mem_map] at hu
  obtain ⟨h, _, rfl⟩ := hu
  rfl
theorem hdCells_snoc (hs : List Hd) (h : Hd) : hdCells hs ++ [h.val] = hdCells (hs ++ [h]) := by simp [hdCells]

/-- The address a leads to rows of integers. -/
def GridAt (w : World) (a : Option Addr) (L : List (List Int)) : Prop := ∃ hs : List Hd, hs.map Hd.l = L ∧ RowAt w a (hdCells hs) ∧ ∀ h ∈ hs, RowAt w h.a (intCells h.l)
theorem GridAt.below {w w' : World} {a : Option Addr} {L : List (List Int)} (h : GridAt w a L) (hb : Below w.heap.size w w') : GridAt w' a L := by
  obtain ⟨hs, h1, h2, h3⟩ := h
  exact ⟨hs, h1, h2.below hb, fun x hx => (h3 x hx).below hb⟩
theorem GridAt.at {w : World} {a : Option Addr} {L : List (List Int)} (h : GridAt w a L) {i : Nat} (hi : i < L.length) :
    ∃ b o ai ci, a = some ⟨b, o, none⟩ ∧ b < w.heap.size ∧ w.cell? ⟨b, o + i, none⟩ = some (.slice ai L[i].length ci) ∧ RowAt w ai (intCells L[i]) := by
  obtain ⟨hs, rfl, h2, h3⟩ := h
  have hi' : i < hs.length := by simpa using hi
  obtain ⟨b, o, rfl, hb, hc⟩ := h2.at (i := i) (by rw [hdCells_len]; exact hi')
  refine ⟨b, o, hs[i].a, hs[i].c, rfl, hb, ?_, ?_⟩
  · rw [hc i _ (hdCells_get hi')]; simp [Hd.val]
  · have := h3 hs[i] (List.getElem_mem hi')
    simpa using this
theorem GridAt.get {w : World} {a : Option Addr} {L : List (List Int)} (h : GridAt w a L) {i : Nat} {r : List Int} (hi : L[i]? = some r) :
    ∃ b o ai ci, a = some ⟨b, o, none⟩ ∧ b < w.heap.size ∧ w.cell? ⟨b, o + i, none⟩ = some (.slice ai r.length ci) ∧ RowAt w ai (intCells r) := by
  obtain ⟨h1, rfl⟩ := List.getElem?_eq_some_iff.1 hi
  exact h.at h1
theorem intCells_get? {w : World} {a : Option Addr} {l : List Int} {x : Int} (h : RowAt w a (intCells l)) {i : Nat} (hi : l[i]? = some x) : ∃ b o, a = some ⟨b, o, none⟩ ∧ b < w.heap.size ∧ w.cell? ⟨b, o + i, none⟩ = some (.int .i64 x) := by
  obtain ⟨h1, rfl⟩ := List.getElem?_eq_some_iff.1 hi
  exact intCells_at h h1
theorem get_some {α : Type} {l : List α} {i : Nat} (h : i < l.length) : ∃ x, l[i]? = some x := ⟨l[i], List.getElem?_eq_getElem h⟩
theorem get_mem {α : Type} {l : List α} {i : Nat} {x : α} (h : l[i]? = some x) : x ∈ l := List.mem_of_getElem? h
theorem GridAt.nil (w : World) (a : Option Addr) : GridAt w a [] := ⟨[], rfl, Or.inl rfl, fun _ h => by cases h⟩

/-- Nothing is written but into the blocks from lo on below hi, and into new ones. -/
def Only (lo hi : Nat) (w w' : World) : Prop :=
  w'.os = w.os ∧ w'.tape = w.tape ∧ w'.output = w.output ∧ w.heap.size ≤ w'.heap.size ∧ ∀ k, k < w.heap.size → k < lo ∨ hi ≤ k → w'.heap[k]? = w.heap[k]?
section
variable {lo hi : Nat} {w w' w'' : World}
theorem Only.refl (lo hi : Nat) (w : World) : Only lo hi w w := ⟨rfl, rfl, rfl, Nat.le_refl _, fun _ _ _ => rfl⟩
theorem Only.size (h : Only lo hi w w') : w.heap.size ≤ w'.heap.size := h.2.2.2.1
theorem Only.trans (h : Only lo hi w w') (h' : Only lo hi w' w'') : Only lo hi w w'' :=
  ⟨h'.1.trans h.1, h'.2.1.trans h.2.1, h'.2.2.1.trans h.2.2.1, Nat.le_trans h.size h'.size, fun k hk ho => (h'.2.2.2.2 k (Nat.lt_of_lt_of_le hk h.size) ho).trans (h.2.2.2.2 k hk ho)⟩
theorem Only.mono (h : Only lo hi w w') {lo' hi' : Nat} (h1 : lo' ≤ lo) (h2 : hi ≤ hi') : Only lo' hi' w w' :=
  ⟨h.1, h.2.1, h.2.2.1, h.size, fun k hk ho => h.2.2.2.2 k hk (by omega)⟩
theorem Only.of_below (h : Below w.heap.size w w') (lo hi : Nat) : Only lo hi w w' := ⟨h.os, h.tape, h.output, h.size, fun k hk _ => h.block k hk⟩
theorem Only.of_grown {g : Nat} (h : w.grownBy w' (some g)) : Only g (g + 1) w w' := ⟨h.os, h.tape, h.output, h.size, fun k hk ho => h.block k hk (fun e => by cases e; omega)⟩
theorem Only.below (h : Only lo hi w w') {B : Nat} (hB : B ≤ lo) (hw : B ≤ w.heap.size) : Below B w w' := ⟨h.1, h.2.1, h.2.2.1, h.size, fun k hk => h.2.2.2.2 k (by omega) (Or.inl (by omega))⟩
theorem Only.block {g : Nat} {t : TypeId} {cs : Array Value} (h : Only lo hi w w') (hk : Blk w g t cs) (ho : g < lo ∨ hi ≤ g) : Blk w' g t cs := (h.2.2.2.2 g hk.lt ho).trans hk
end

/-- A row whose block is known, from lo on below hi: it can be written. -/
def RowIn (w : World) (lo hi : Nat) (t : TypeId) (a : Option Addr) (cs : List Value) : Prop :=
  cs = [] ∨ ∃ g o all, a = some ⟨g, o, none⟩ ∧ lo ≤ g ∧ g < hi ∧ Blk w g t all ∧ ∀ i v, cs[i]? = some v → all[o + i]? = some v
section
variable {w w' : World} {lo hi : Nat} {t : TypeId} {a : Option Addr} {cs : List Value}
theorem RowIn.fresh (h : RowIn w lo hi t a cs) : Fresh w lo t a cs := by
  rcases h with h | ⟨g, o, all, rfl, h1, _, hk, hc⟩
  · exact Or.inl h
  · exact Or.inr ⟨g, o, all, rfl, h1, hk, hc⟩
theorem RowIn.of_fresh (h : Fresh w lo t a cs) : RowIn w lo w.heap.size t a cs := by
  rcases h with h | ⟨g, o, all, rfl, h1, hk, hc⟩
  · exact Or.inl h
  · exact Or.inr ⟨g, o, all, rfl, h1, hk.lt, hk, hc⟩
theorem RowIn.of_blk {g : Nat} (h : Blk w g t cs.toArray) (h1 : lo ≤ g) (h2 : g < hi) : RowIn w lo hi t (some ⟨g, 0, none⟩) cs :=
  Or.inr ⟨g, 0, _, rfl, h1, h2, h, fun i v hv => by rw [Nat.zero_add]; simpa using hv⟩
theorem RowIn.row (h : RowIn w lo hi t a cs) : RowAt w a cs := h.fresh.row
theorem RowIn.mono (h : RowIn w lo hi t a cs) {lo' hi' : Nat} (h1 : lo' ≤ lo) (h2 : hi ≤ hi') : RowIn w lo' hi' t a cs := by
  rcases h with h | ⟨g, o, all, rfl, h3, h4, hk, hc⟩
  · exact Or.inl h
  · exact Or.inr ⟨g, o, all, rfl, Nat.le_trans h1 h3, Nat.lt_of_lt_of_le h4 h2, hk, hc⟩
theorem RowIn.below (h : RowIn w lo hi t a cs) (hb : Below w.heap.size w w') : RowIn w' lo hi t a cs := by
  rcases h with h | ⟨g, o, all, rfl, h3, h4, hk, hc⟩
  · exact Or.inl h
  · exact Or.inr ⟨g, o, all, rfl, h3, h4, hk.below hb hk.lt, hc⟩
theorem RowIn.only {lo' hi' : Nat} (h : RowIn w lo hi t a cs) (ho : Only lo' hi' w w') (hd : hi ≤ lo' ∨ hi' ≤ lo) : RowIn w' lo hi t a cs := by
  rcases h with h | ⟨g, o, all, rfl, h3, h4, hk, hc⟩
  · exact Or.inl h
  · exact Or.inr ⟨g, o, all, rfl, h3, h4, ho.block hk (by omega), hc⟩
end

/-- Two inner rows lie in blocks of their own. -/
def Apart (h h' : Hd) : Prop := h.l = [] ∨ h'.l = [] ∨ ∀ g o g' o', h.a = some ⟨g, o, none⟩ → h'.a = some ⟨g', o', none⟩ → g ≠ g'
/-- The inner rows lie in blocks of their own, and none is longer than its capacity. -/
def Apts (hs : List Hd) : Prop := hs.Pairwise Apart ∧ ∀ h ∈ hs, h.l.length ≤ h.c
theorem Apts.nil : Apts [] := ⟨List.Pairwise.nil, fun _ h => by cases h⟩
theorem Apts.one {x : Hd} (hc : x.l.length ≤ x.c) : Apts [x] := ⟨List.pairwise_singleton _ _, fun h hh => by rw [List.mem_singleton.1 hh]; exact hc⟩
theorem Apts.snoc {hs : List Hd} {x : Hd} (h : Apts hs) (hx : ∀ y ∈ hs, Apart y x) (hc : x.l.length ≤ x.c) : Apts (hs ++ [x]) := by
  refine ⟨?_, fun y hy => ?_⟩
  · rw [List.pairwise_append]
    exact ⟨h.1, List.pairwise_singleton _ _, fun y hy z hz => by rw [List.mem_singleton.1 hz]; exact hx y hy⟩
  · rcases List.mem_append.1 hy with hy | hy
    · exact h.2 y hy
    · rw [List.mem_singleton.1 hy]; exact hc
/-- Rows of rows in blocks from lo on below hi, each in one of its own: they can be written. -/
def GridIn (w : World) (lo hi : Nat) (a : Option Addr) (L : List (List Int)) : Prop :=
  ∃ hs : List Hd, hs.map Hd.l = L ∧ RowIn w lo hi 40 a (hdCells hs) ∧ (∀ h ∈ hs, RowIn w lo hi 3 h.a (intCells h.l)) ∧ Apts hs
section
variable {w w' : World} {lo hi : Nat} {a : Option Addr} {L : List (List Int)}
theorem GridIn.grid (h : GridIn w lo hi a L) : GridAt w a L := by
  obtain ⟨hs, h1, h2, h3, _⟩ := h
  exact ⟨hs, h1, h2.row, fun x hx => (h3 x hx).row⟩
theorem GridIn.mono (h : GridIn w lo hi a L) {lo' hi' : Nat} (h1 : lo' ≤ lo) (h2 : hi ≤ hi') : GridIn w lo' hi' a L := by
  obtain ⟨hs, e, h3, h4, h5⟩ := h
  exact ⟨hs, e, h3.mono h1 h2, fun x hx => (h4 x hx).mono h1 h2, h5⟩
theorem GridIn.below (h : GridIn w lo hi a L) (hb : Below w.heap.size w w') : GridIn w' lo hi a L := by
  obtain ⟨hs, e, h3, h4, h5⟩ := h
  exact ⟨hs, e, h3.below hb, fun x hx => (h4 x hx).below hb, h5⟩
theorem GridIn.only {lo' hi' : Nat} (h : GridIn w lo hi a L) (ho : Only lo' hi' w w') (hd : hi ≤ lo' ∨ hi' ≤ lo) : GridIn w' lo hi a L := by
  obtain ⟨hs, e, h3, h4, h5⟩ := h
  exact ⟨hs, e, h3.only ho hd, fun x hx => (h4 x hx).only ho hd, h5⟩
theorem GridIn.nil (w : World) (lo hi : Nat) (a : Option Addr) : GridIn w lo hi a [] := ⟨[], rfl, Or.inl rfl, fun _ h => (by cases h), Apts.nil⟩
end
/-- Rows that are read, none longer than its capacity. -/
def GridC (w : World) (a : Option Addr) (L : List (List Int)) : Prop := ∃ hs : List Hd, hs.map Hd.l = L ∧ RowAt w a (hdCells hs) ∧ (∀ h ∈ hs, RowAt w h.a (intCells h.l)) ∧ ∀ h ∈ hs, h.l.length ≤ h.c
theorem GridC.grid {w : World} {a : Option Addr} {L : List (List Int)} (h : GridC w a L) : GridAt w a L := by
  obtain ⟨hs, h1, h2, h3, _⟩ := h; exact ⟨hs, h1, h2, h3⟩
theorem GridIn.gridc {w : World} {lo hi : Nat} {a : Option Addr} {L : List (List Int)} (h : GridIn w lo hi a L) : GridC w a L := by
  obtain ⟨hs, h1, h2, h3, h4⟩ := h
  exact ⟨hs, h1, h2.row, fun x hx => (h3 x hx).row, h4.2⟩
theorem GridC.below {w w' : World} {a : Option Addr} {L : List (List Int)} (h : GridC w a L) (hb : Below w.heap.size w w') : GridC w' a L := by
  obtain ⟨hs, h1, h2, h3, h4⟩ := h
  exact ⟨hs, h1, h2.below hb, fun x hx => (h3 x hx).below hb, h4⟩
theorem GridC.cell {w : World} {a : Option Addr} {L : List (List Int)} (h : GridC w a L) {i : Nat} {r : List Int} (hi : L[i]? = some r) : ∃ b o ai ci, a = some ⟨b, o, none⟩ ∧ r.length ≤ ci ∧ (∀ W, Below w.heap.size w W → W.cell? ⟨b, o + i, none⟩ = some (.slice ai r.length ci)) ∧ ∀ W, Below w.heap.size w W → RowAt W ai (intCells r) := by
  obtain ⟨hs, rfl, h2, h3, h4⟩ := h
  obtain ⟨h5, rfl⟩ := List.getElem?_eq_some_iff.1 hi
  have h6 : i < hs.length := by simpa using h5
  obtain ⟨b, o, rfl, hb, hc⟩ := h2.at (i := i) (by rw [hdCells_len]; exact h6)
  have hm := List.getElem_mem h6
  refine ⟨b, o, hs[i].a, hs[i].c, rfl, by have := h4 _ hm; simpa using this, fun W hW => ?_, fun W hW => ?_⟩
  · rw [hW.cell hb, hc i _ (hdCells_get h6)]; simp [Hd.val]
  · have := (h3 _ hm).below hW; simpa using this

/-- How many integers the rows hold together. -/
def sumLen (L : List (List Int)) : Nat := (L.map List.length).sum
theorem sumLen_flat (L : List (List Int)) : sumLen L = L.flatten.length := by simp [sumLen, List.length_flatten]
theorem sumLen_nil : sumLen [] = 0 := rfl
theorem sumLen_take {L : List (List Int)} {i : Nat} (h : i < L.length) : sumLen (L.take (i + 1)) = sumLen (L.take i) + L[i].length := by
  unfold sumLen; rw [List.take_succ_eq_append_getElem h, List.map_append, List.sum_append]; simp
theorem sumLen_le (L : List (List Int)) (i : Nat) : sumLen (L.take i) ≤ sumLen L := by
  have : sumLen L = sumLen (L.take i) + sumLen (L.drop i) := by unfold sumLen; rw [← List.sum_append, ← List.map_append, List.take_append_drop]
  omega
theorem sumLen_all (L : List (List Int)) : sumLen (L.take L.length) = sumLen L := by rw [List.take_of_length_le (Nat.le_refl _)]
theorem len_le_sumLen {L : List (List Int)} {i : Nat} (h : i < L.length) : L[i].length ≤ sumLen L := by
  have := sumLen_take h; have := sumLen_le L (i + 1); omega
def tot (L : List (List Int)) : Nat := L.length + sumLen L
end Go.Proofs.YtehibigjdbpikaaDoor
