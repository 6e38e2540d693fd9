/-
  Rows of rows that a call holds and in which one row is replaced; copies of polygons; the walks of TurnPolygon and MirrorPolygon.
-/
import Derived.Test.YtamgimdjnmcpaaaDoorBase
import Derived.Test.YtamgimdjnmcpaaaDoorSlice
import Derived.Test.YtamgimdjnmcpaaaDoorIntRow
import Derived.Test.YtamgimdjnmcpaaaDoorInts
import Derived.Test.YtamgimdjnmcpaaaDoorOwn
import Derived.Test.YtamgimdjnmcpaaaDoorGrid
import Derived.Test.YtamgimdjnmcpaaaDoorGridWalk
import Derived.Test.YtamgimdjnmcpaaaDoorGridRows
import Derived.Test.YtamgimdjnmcpaaaDoorWord
import Derived.Test.YtamgimdjnmcpaaaDoorGlue
import Derived.Test.YtamgimdjnmcpaaaDoorIsWord
import Derived.Test.YtamgimdjnmcpaaaDoorIsGluing
import Derived.Test.YtamgimdjnmcpaaaDoorAppend
import Derived.Test.YtamgimdjnmcpaaaDoorTurn
import Derived.Test.YtamgimdjnmcpaaaDoorInvert
import Derived.Test.YtamgimdjnmcpaaaDoorMove
import Derived.Laws.CopyOwn
import Derived.Laws.OwnMore
namespace Go.Proofs.YtamgimdjnmcpaaaDoor
open Go.RowKit

/-- Rows that a call holds in memory from the block lo on: it can write them. -/
def Held (w : World) (lo : Nat) (v : Value) (L : List (List Int)) : Prop :=
  ∃ hs : List Hd, hs.map Hd.l = L ∧ w.ownsRow lo 24 1 v L.length (hdCells hs) ∧ (∀ h ∈ hs, RowIn w lo w.heap.size 3 h.a (intCells h.l)) ∧ Apts hs
theorem Held.len {hs : List Hd} {L : List (List Int)} (h : hs.map Hd.l = L) : hs.length = L.length := by rw [← h]; simp
theorem Held.form {w : World} {lo : Nat} {v : Value} {L : List (List Int)} (h : Held w lo v L) (hn : 0 < L.length) : ∃ g cap, v = .slice (some ⟨g, 0, none⟩) L.length cap ∧ lo ≤ g ∧ g < w.heap.size ∧ L.length ≤ cap ∧ cap ≤ maxLen := by
  obtain ⟨hs, h1, h2, h3, h4⟩ := h
  obtain ⟨g, cap, rfl, h5, h6⟩ := own_form h2 hn
  have := h2.lt g rfl
  exact ⟨g, cap, rfl, this.1, this.2, h5, h6⟩
theorem Held.mono {w : World} {lo lo' : Nat} {v : Value} {L : List (List Int)} (h : Held w lo v L) (hl : lo' ≤ lo) : Held w lo' v L := by
  obtain ⟨hs, h1, h2, h3, h4⟩ := h
  exact ⟨hs, h1, own_mono h2 hl, fun x hx => (h3 x hx).mono hl (Nat.le_refl _), h4⟩
theorem Held.below {w w' : World} {lo : Nat} {v : Value} {L : List (List Int)} (h : Held w lo v L) (hb : Below w.heap.size w w') : Held w' lo v L := by
  obtain ⟨hs, h1, h2, h3, h4⟩ := h
  exact ⟨hs, h1, own_keep h2 hb (fun k hk => (h2.lt k hk).2), fun x hx => ((h3 x hx).below hb).mono (Nat.le_refl _) hb.size, h4⟩
theorem Held.done {w : World} {lo : Nat} {v : Value} {L : List (List Int)} (h : Held w lo v L) : ∃ a c, v = .slice a L.length c ∧ L.length ≤ c ∧ c ≤ maxLen ∧ GridIn w lo w.heap.size a L := by
  obtain ⟨hs, rfl, h2, h3, h4⟩ := h
  exact grid_done h2 (by simp) h3 h4
theorem Held.cell {w : World} {lo g cap n : Nat} {L : List (List Int)} (h : Held w lo (.slice (some ⟨g, 0, none⟩) n cap) L) {i : Nat} {r : List Int} (hi : L[i]? = some r) : ∃ ai ci, w.cell? ⟨g, i, none⟩ = some (.slice ai r.length ci) ∧ r.length ≤ ci ∧ RowIn w lo w.heap.size 3 ai (intCells r) := by
  obtain ⟨hs, rfl, h2, h3, h4⟩ := h
  obtain ⟨h5, rfl⟩ := List.getElem?_eq_some_iff.1 hi
  have h6 : i < hs.length := by simpa using h5
  obtain ⟨a', c', he⟩ := own_len h2
  cases he
  refine ⟨hs[i].a, hs[i].c, ?_, by have := h4.2 _ (List.getElem_mem h6); simpa using this, by have := h3 _ (List.getElem_mem h6); simpa using this⟩
  rw [h2.cellAt i (by simpa using h6), hdCells_get h6]; simp [Hd.val]
theorem Held.frozen {w : World} {lo g cap n : Nat} {L : List (List Int)} (h : Held w lo (.slice (some ⟨g, 0, none⟩) n cap) L) (i : Nat) : w.frozen? ⟨g, i, none⟩ = false := by
  obtain ⟨hs, rfl, h2, h3, h4⟩ := h
  obtain ⟨a', c', he⟩ := own_len h2
  cases he
  exact h2.frozenAt i
theorem Apart.symm {h h' : Hd} (a : Apart h h') : Apart h' h := by
  rcases a with a | a | a
  · exact Or.inr (Or.inl a)
  · exact Or.inl a
  · exact Or.inr (Or.inr fun g o g' o' h1 h2 e => a g' o' g o h2 h1 e.symm)
theorem pair_set {hs : List Hd} {p : Nat} {x : Hd} (h : Apts hs) (hx : ∀ y ∈ hs, Apart y x) (hc : x.l.length ≤ x.c) : Apts (hs.set p x) := by
  obtain ⟨h, h0⟩ := h
  refine ⟨?_, fun y hy => (List.mem_or_eq_of_mem_set hy).elim (h0 y) (fun e => by rw [e]; exact hc)⟩
  rw [List.pairwise_iff_getElem] at h ⊢
  intro i j hi hj hij
  rw [List.length_set] at hi hj
  rw [List.getElem_set, List.getElem_set]
  split
  · split
    · omega
    · exact (hx _ (List.getElem_mem hj)).symm
  · split
    · exact hx _ (List.getElem_mem hi)
    · exact h i j hi hj hij
theorem hdCells_set (hs : List Hd) (p : Nat) (x : Hd) : hdCells (hs.set p x) = (hdCells hs).set p x.val := by simp [hdCells, List.map_set]
/-- A row that came in from elsewhere is laid in the place of one. -/
theorem Held.put {w : World} {N lo g cap n p rc : Nat} {L : List (List Int)} {r : List Int} {ra : Option Addr} (h : Held w N (.slice (some ⟨g, 0, none⟩) n cap) L) (hp : p < L.length) (hr : RowIn w lo N 3 ra (intCells r)) (hlo : lo ≤ N) (hrc : r.length ≤ rc) :
    Held (w.setCell ⟨g, p, none⟩ (.slice ra r.length rc)) lo (.slice (some ⟨g, 0, none⟩) n cap) (L.set p r) := by
  obtain ⟨hs, rfl, h2, h3, h4⟩ := h
  obtain ⟨a', c', he⟩ := own_len h2
  cases he
  have hp' : p < hs.length := by simpa using hp
  have hsz : (w.setCell ⟨g, p, none⟩ (.slice ra r.length rc)).heap.size = w.heap.size := by simp [World.setCell]
  have hlt := h2.lt g rfl
  obtain ⟨cur, hcur⟩ := own_type h2 g rfl
  have far : ∀ {a : Option Addr} {cs : List Value} {l h : Nat}, RowIn w l h 3 a cs → RowIn (w.setCell ⟨g, p, none⟩ (.slice ra r.length rc)) l h 3 a cs := by
    intro a cs l h hh
    rcases hh with e | ⟨g', o, all, e, e1, e2, e3, e4⟩
    · exact Or.inl e
    · refine Or.inr ⟨g', o, all, e, e1, e2, e3.far (fun e5 => ?_) _, e4⟩
      have e5 : g' = g := e5
      subst e5
      unfold Blk at e3; rw [hcur] at e3
      injection e3 with e3; injection e3 with _ e6 _
      exact absurd e6 (by decide)
  refine ⟨hs.set p ⟨ra, rc, r⟩, by rw [List.map_set], ?_, fun x hx => ?_, pair_set h4 (fun y hy => ?_) hrc⟩
  · rw [List.length_set, hdCells_set]
    exact own_mono (h2.stored p (.slice ra r.length rc)).1 hlo
  · rw [hsz]
    rcases List.mem_or_eq_of_mem_set hx with hx | rfl
    · exact (far (h3 x hx)).mono hlo (Nat.le_refl _)
    · exact (far hr).mono (Nat.le_refl _) (by omega)
  · rcases h3 y hy with e | ⟨g1, o1, all1, e, e1, _⟩
    · exact Or.inl (by simpa [intCells] using e)
    · rcases hr with e' | ⟨g2, o2, all2, e', _, e2, _⟩
      · exact Or.inr (Or.inl (by simpa [intCells] using e'))
      · right; right
        intro g3 o3 g4 o4 h5 h6
        rw [e] at h5; cases h5
        rw [show (⟨ra, rc, r⟩ : Hd).a = ra from rfl, e'] at h6; cases h6
        omega
theorem Held.gives {w w' : World} {v : Value} {L : List (List Int)} {b : Bool} (h : Held w' w.heap.size v L) (hb : Below w.heap.size w w') : GivesRows2 w L b (.returned (.tuple #[v, .bool b])) w' := by
  obtain ⟨a, c, rfl, h1, h2, h3⟩ := h.done
  exact ⟨a, c, rfl, h1, h2, h3, hb⟩

theorem GridPart.below {w w' : World} {N n : Nat} {hs : List Hd} (h : GridPart w N n hs) (hb : Below w.heap.size w w') : GridPart w' N n hs :=
  ⟨h.1.below hb h.1.lt, fun x hx => ((h.2.1 x hx).below hb).mono (Nat.le_refl _) hb.size, h.2.2⟩
theorem GridPart.held {w : World} {N n : Nat} {hs : List Hd} {L : List (List Int)} (h : GridPart w N n hs) (hn : hs.length = n) (hl : hs.map Hd.l = L) (hm : n ≤ maxLen) : Held w N (.slice (some ⟨N, 0, none⟩) n n) L := by
  obtain ⟨h1, h2, h3⟩ := h
  rw [hn, Nat.sub_self, List.replicate_zero, List.append_nil] at h1
  have hL : L.length = n := by rw [← hn, ← hl]; simp
  refine ⟨hs, hl, ?_, h2, h3⟩
  rw [hL]
  refine ⟨by rw [hdCells_len, hn, Nat.mul_one], Or.inr ⟨N, n, _, rfl, Nat.le_refl _, h1, Nat.le_refl _, hm, by simp [hdCells_len, hn], ?_⟩⟩
  simp [← hn, ← hdCells_len hs]
theorem GridPart.copied {wr w2 : World} {N n c : Nat} {hs : List Hd} {l : List Int} {o : Obj} (h : GridPart wr N n hs) (hn : hs.length < n) (hk : Blk w2 wr.heap.size 3 (intCells l).toArray)
    (hb : Below wr.heap.size ((wr.setCell ⟨N, hs.length, none⟩ (.slice (some ⟨wr.heap.size, 0, none⟩) l.length c)).alloc o) w2) (hlc : l.length ≤ c) : GridPart w2 N n (hs ++ [⟨some ⟨wr.heap.size, 0, none⟩, c, l⟩]) := by
  have hN : N < wr.heap.size := h.1.lt
  have s := h.step (c := c) (w1 := wr.alloc (.cells (intCells l).toArray 3)) hn (Blk.new _ _ _) ((Below.refl _ _).alloc (Nat.le_refl _) _) hlc
  have hlt := hk.lt
  have hsz : ((wr.alloc (.cells (intCells l).toArray 3)).setCell ⟨N, hs.length, none⟩ (.slice (some ⟨wr.heap.size, 0, none⟩) l.length c)).heap.size = wr.heap.size + 1 := by simp [World.setCell]
  refine s.below ⟨hb.os, hb.tape, hb.output, by rw [hsz]; exact hlt, fun k hk' => ?_⟩
  rw [hsz] at hk'
  rcases Nat.lt_or_ge k wr.heap.size with h1 | h1
  · rw [hb.block k h1]
    by_cases e : k = N
    · subst e
      have b1 := (h.1.put hs.length (.slice (some ⟨wr.heap.size, 0, none⟩) l.length c)).alloc o
      have b2 := (h.1.alloc (.cells (intCells l).toArray 3)).put hs.length (.slice (some ⟨wr.heap.size, 0, none⟩) l.length c)
      unfold Blk at b1 b2
      rw [b1, b2]
    · rw [Below.heap_alloc _ _ _ (by simpa [World.setCell] using h1), Below.heap_setCell _ _ _ _ e, Below.heap_setCell _ _ _ _ e, Below.heap_alloc _ _ _ h1]
  · obtain rfl : k = wr.heap.size := by omega
    have b2 := (Blk.new wr 3 (intCells l).toArray).far (p := ⟨N, hs.length, none⟩) (by show wr.heap.size ≠ N; omega) (.slice (some ⟨wr.heap.size, 0, none⟩) l.length c)
    unfold Blk at hk b2
    rw [hk, b2]
theorem mk_rowZ (n : Nat) (h1 : n ≤ 1048576) (w : World) : (Instr.makeSlice 24 (.int .i64 (n : Int)) (.int .i64 (n : Int))).run Tryd.prog w = .ok (.slice (some ⟨w.heap.size, 0, none⟩) n n) (w.alloc (.cells (Array.replicate n (Value.int .i64 0)) 3)) := by
  obtain ⟨i0, hi, hz0, hz1, hz2⟩ := info_parts info_int
  have h := run_make_rowN (P := Tryd.prog) 24 3 i0 _ Tryd.underlying24 hi hz0 .i64 .i64 n n (Nat.le_refl _) (by rw [hz2]; omega) (by omega) w
  have e : madeCells (Value.int .i64 0).cells (n * i0.size) = Array.replicate n (Value.int .i64 0) := by
    rw [hz1, Nat.mul_one]; exact (made_one _ _).trans (by simp)
  rw [e] at h
  exact h
theorem row_addr {w : World} {a : Option Addr} {cs : List Value} (h : RowAt w a cs) (h0 : 0 < cs.length) : ∃ ad, a = some ad ∧ ∀ j v, cs[j]? = some v → w.cell? (ad.add j) = some v := by
  obtain ⟨b, o, rfl, _, hc⟩ := h.at (i := 0) h0
  refine ⟨_, rfl, fun j v hj => ?_⟩
  rw [show (⟨b, o, none⟩ : Addr).add j = ⟨b, o + j, none⟩ from by unfold Addr.add; split <;> simp_all]
  exact hc j v hj
theorem splice_all {α : Type} {L cs : List α} (h : L.length = cs.length) : splice L 0 cs = cs := by simp [splice, ← h]

end Go.Proofs.YtamgimdjnmcpaaaDoor
