/-
  The walks of the laws' helpers over rows of rows of integers.
-/
import Derived.Test.YtamgimdjnmcpaaaDoorBase
import Derived.Test.YtamgimdjnmcpaaaDoorSlice
import Derived.Test.YtamgimdjnmcpaaaDoorIntRow
import Derived.Test.YtamgimdjnmcpaaaDoorInts
import Derived.Test.YtamgimdjnmcpaaaDoorGrid
import Derived.Deep.QuietTactic
import Derived.BigQuiet
namespace Go.Proofs.YtamgimdjnmcpaaaDoor
open Go.RowKit

theorem info_ints : (Tryd.prog.info? 24).map (fun i => (i.zero, i.size, i.bytes)) = some (some (.slice none 0 0), 1, 24) := by kernel_rfl
theorem info_ints_parts : ∃ i, Tryd.prog.info? 24 = some i ∧ i.zero = some (.slice none 0 0) ∧ i.size = 1 ∧ i.bytes = 24 := by
  obtain ⟨i, h1, h2, h3, h4⟩ := info_parts info_ints
  exact ⟨i, h1, h2, h3, h4⟩

/-- The outer block N with the rows hs laid, the rest nil. -/
def GridPart (w : World) (N n : Nat) (hs : List Hd) : Prop :=
  Blk w N 24 (hdCells hs ++ List.replicate (n - hs.length) (Value.slice none 0 0)).toArray ∧ (∀ h ∈ hs, RowIn w N w.heap.size 3 h.a (intCells h.l)) ∧ Apts hs
theorem GridPart.start (w : World) (n : Nat) : GridPart (w.alloc (.cells (List.replicate n (Value.slice none 0 0)).toArray 24)) w.heap.size n [] :=
  ⟨by simpa [hdCells] using Blk.new w 24 (List.replicate n (Value.slice none 0 0)).toArray, fun _ h => (by cases h), Apts.nil⟩
theorem GridPart.cell {w : World} {N n : Nat} {hs : List Hd} (h : GridPart w N n hs) (hn : hs.length < n) : w.cell? ⟨N, hs.length, none⟩ = some (Value.slice none 0 0) := by
  rw [h.1.cell hs.length]
  have e : n - hs.length = (n - (hs.length + 1)) + 1 := by omega
  rw [e, List.replicate_succ]
  simp [List.getElem?_append, hdCells_len]
theorem GridPart.step {w w1 : World} {N n : Nat} {hs : List Hd} {l : List Int} {c : Nat} (h : GridPart w N n hs) (hn : hs.length < n) (hk : Blk w1 w.heap.size 3 (intCells l).toArray) (hb : Below w.heap.size w w1) (hlc : l.length ≤ c) :
    GridPart (w1.setCell ⟨N, hs.length, none⟩ (.slice (some ⟨w.heap.size, 0, none⟩) l.length c)) N n (hs ++ [⟨some ⟨w.heap.size, 0, none⟩, c, l⟩]) := by
  obtain ⟨h1, h2, h3⟩ := h
  have hN : N < w.heap.size := h1.lt
  have h1' := h1.below hb hN
  have hsz : (w1.setCell ⟨N, hs.length, none⟩ (.slice (some ⟨w.heap.size, 0, none⟩) l.length c)).heap.size = w1.heap.size := by simp [World.setCell]
  have hlt := hk.lt
  refine ⟨?_, ?_, ?_⟩
  · have e := h1'.put hs.length (.slice (some ⟨w.heap.size, 0, none⟩) l.length c)
    rw [List.length_append, List.length_singleton]
    have e2 : (hdCells hs ++ List.replicate (n - hs.length) (Value.slice none 0 0)).toArray.setIfInBounds hs.length (.slice (some ⟨w.heap.size, 0, none⟩) l.length c) = (hdCells (hs ++ [(⟨some ⟨w.heap.size, 0, none⟩, c, l⟩ : Hd)]) ++ List.replicate (n - (hs.length + 1)) (Value.slice none 0 0)).toArray := by
      rw [show n - hs.length = (n - (hs.length + 1)) + 1 from by omega, List.replicate_succ]
      simp only [List.setIfInBounds_toArray, List.set_append, hdCells_len, Nat.lt_irrefl, if_false, Nat.sub_self, List.set_cons_zero]
      rw [← hdCells_snoc, List.append_assoc]; rfl
    rw [e2] at e
    exact e
  · intro x hx
    rcases List.mem_append.1 hx with hx | hx
    · have := (h2 x hx).below hb
      rcases this with e | ⟨g, o, all, e, e1, e2, e3, e4⟩
      · exact Or.inl e
      · have hne : g ≠ N := by
          rintro rfl
          have := h1'; unfold Blk at this e3; rw [this] at e3
          injection e3 with e3; injection e3 with _ e5 _
          exact absurd e5 (by decide)
        refine Or.inr ⟨g, o, all, e, e1, by rw [hsz]; have := hb.size; omega, e3.far hne _, e4⟩
    · simp only [List.mem_singleton] at hx
      subst hx
      exact RowIn.of_blk (hk.far (by show w.heap.size ≠ N; omega) _) (by omega) (by rw [hsz]; exact hlt)
  · refine h3.snoc (fun x hx => ?_) hlc
    rcases h2 x hx with e | ⟨g2, o2, all, e, e3, e4, _⟩
    · exact Or.inl (by simpa [intCells] using e)
    · right; right
      rintro g o g' o' e1 e2
      cases e2
      rw [e] at e1; cases e1; omega
theorem GridPart.done {w : World} {N n : Nat} {hs : List Hd} (h : GridPart w N n hs) (hn : hs.length = n) : GridIn w N w.heap.size (some ⟨N, 0, none⟩) (hs.map Hd.l) := by
  obtain ⟨h1, h2, h3⟩ := h
  have hlt := h1.lt
  rw [hn, Nat.sub_self, List.replicate_zero, List.append_nil] at h1
  exact ⟨hs, rfl, RowIn.of_blk h1 (Nat.le_refl _) hlt, h2, h3⟩

set_option maxRecDepth 10000 in
set_option maxHeartbeats 400000 in
theorem toIntSS (a : Option Addr) (c : Nat) (L : List (List Int)) (w : World) (ha : GridAt w a L) (hl : tot L ≤ 1048576) :
    Calls Tryd.prog 49 #[.slice a L.length c] w fun e w' => e = .returned (.slice (some ⟨w.heap.size, 0, none⟩) L.length L.length) ∧ GridIn w' w.heap.size w'.heap.size (some ⟨w.heap.size, 0, none⟩) L ∧ Below w.heap.size w w' := by
  obtain ⟨i0, hi, hz0, hz1, hz2⟩ := info_ints_parts
  have hln : L.length ≤ 1048576 := by unfold tot at hl; omega
  have hmk := fun W => run_make_rowN (P := Tryd.prog) 31 24 i0 _ Tryd.underlying31 hi hz0 .i64 .i64 L.length L.length (Nat.le_refl _) (by rw [hz2]; omega) (by omega) W
  have hmc : madeCells (Value.slice none 0 0).cells (L.length * i0.size) = (List.replicate L.length (Value.slice none 0 0)).toArray := by
    rw [hz1, Nat.mul_one]; exact made_one _ _
  rw [hmc] at hmk
  have hst := GridPart.start w L.length
  generalize hN : w.heap.size = N at *
  have HN := Lib.hid hN
  have Hst := Lib.hid hst
  have HL := Lib.hid hl
  have Ha := Lib.hid ha
  clear hi hz0 hz1 hz2 hmc hst hl ha
  go_enter Tryd.func49, Tryd.ntmps49
  go_wp2
  go_loopw [4] (fun iv wr => ∃ i : Nat, i ≤ L.length ∧ iv = .int .i64 i ∧ (∃ hs, Hid (hs.map Hd.l = L.take i ∧ GridPart wr N L.length hs)) ∧ Below N w wr) (fun iv _ => L.length - (intOf iv).toNat)
  case atStart => exact ⟨0, by omega, rfl, ⟨[], Lib.hid ⟨by simp, Hst.out⟩⟩, by have h := (Below.refl w.heap.size w).alloc (Nat.le_refl _) (.cells (List.replicate L.length (Value.slice none 0 0)).toArray 24); rw [HN.out] at h; exact h⟩
  case round =>
    obtain ⟨i, hi, rfl, ⟨hs, hp⟩, hb⟩ := hrel
    by_cases hlt : i < L.length
    · have hlen : hs.length = i := by have := congrArg List.length hp.out.1; rw [List.length_map, List.length_take] at this; omega
      obtain ⟨b, o, ai, ci, rfl, hbw, hcell, hrow⟩ := (Ha.out.below (by rw [HN.out]; exact hb)).at hlt
      have Hrow := Lib.hid hrow
      have hll : L[i].length ≤ 1048576 := by have := len_le_sumLen hlt; have := HL.out; unfold tot at this; omega
      have htk : L.take (i + 1) = L.take i ++ [L[i]] := List.take_succ_eq_append_getElem hlt
      generalize L[i] = r at *
      have Htk := Lib.hid htk
      clear hrow htk
      subst hlen
      go_wp2_with fail
      refine (toIntS ai ci r wr Hrow.out hll).mono ?_
      rintro e w1 ⟨rfl, hk1, hb1⟩
      have hNlt : N < wr.heap.size := hp.out.2.1.lt
      have hdst : w1.cell? ⟨N, hs.length, none⟩ = some (.slice none 0 0) := by
        rw [hb1.cell (p := ⟨N, hs.length, none⟩) hNlt]; exact hp.out.2.cell hlt
      have hfz : w1.frozen? ⟨N, hs.length, none⟩ = false := (hp.out.2.1.below hb1 hNlt).frozen _
      have Hk1 := Lib.hid hk1
      have Hb1 := Lib.hid hb1
      have Hb := Lib.hid hb
      clear hk1 hb1 hb
      go_wp2
      go_roundw
      case rel =>
        refine ⟨hs.length + 1, by omega, by go_num, ⟨_, Lib.hid ⟨?_, hp.out.2.step (c := r.length) hlt Hk1.out Hb1.out (Nat.le_refl _)⟩⟩, ?_⟩
        · rw [List.map_append, hp.out.1, Htk.out]; rfl
        · have h := Hb.out.trans (Hb1.out.mono (by omega))
          exact h.setCell (Nat.le_refl _) _
      case measure => simp [intOf]; omega
    · obtain rfl : i = L.length := by omega
      go_wp2
      go_ret
      refine ⟨rfl, ?_, hb⟩
      have h1 := hp.out.1
      rw [List.take_of_length_le (Nat.le_refl _)] at h1
      have h := hp.out.2.done (by rw [← h1]; simp)
      rw [h1] at h
      exact h

end Go.Proofs.YtamgimdjnmcpaaaDoor
