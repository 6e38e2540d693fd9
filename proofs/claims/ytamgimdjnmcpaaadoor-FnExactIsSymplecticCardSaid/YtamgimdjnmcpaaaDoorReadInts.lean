/-
  A slice of integers that comes in: its cells are known. Rows of rows of integers that come in: their cells are known. Rows that are few are short.
-/
import Derived.Test.YtamgimdjnmcpaaaDoorBase
import Derived.Test.YtamgimdjnmcpaaaDoorSlice
import Derived.Test.YtamgimdjnmcpaaaDoorInts
import Derived.SliceStrings
import Derived.OpenShut
import Derived.Test.YtamgimdjnmcpaaaDoorGrid
import Derived.Deep.Matrix
import Derived.Test.YtamgimdjnmcpaaaDoorOwn
namespace Go.Proofs.YtamgimdjnmcpaaaDoor
open Go.ChangeShapes Go.WideShapes Go.ChangeAt Go.RowKit Go.WideMaps Go.WideElems
set_option maxRecDepth 100000 in
theorem Read.cellsInt : Tryd.prog.cellsOf 3 = 1 := by kernel_rfl
set_option maxRecDepth 100000 in
theorem Read.lt_of_cell_int {w : World} {b o : Nat} {v : Value} (h : w.cell? ⟨b, o, none⟩ = some v) : b < w.heap.size := by
  rcases Nat.lt_or_ge b w.heap.size with hl | hl
  · exact hl
  · simp [World.cell?, Array.getElem?_eq_none hl] at h
set_option maxRecDepth 100000 in
theorem Read.ints_of {H : Type} {enc : TypeId × Value → H} {W : World} {base : Nat} {v : Value} {d : DataW H} {p : List MemPlace} (hval : Value.okWide Tryd.prog W .any base 24 v)
    (h : DataW.Trod enc Tryd.prog W 0 (fun _ => true) true 24 v d p) :
    ∃ a c l, v = .slice a (l : List Int).length c ∧ RowAt W a (intCells l) ∧ l.length ≤ maxLen ∧ I64s l := by
  obtain ⟨a0, len, cap, rfl⟩ := okWide_slice Tryd.underlying24 hval
  obtain ⟨fuel, hf⟩ := h
  rcases open_ints Tryd.underlying24 Tryd.underlying3 Read.cellsInt hf with ⟨hcs, hx⟩ | ⟨a, len', cap', zs, hcs, _, hl, hm, hz, hx, hcell, hws⟩
  · simp [Value.cells] at hcs
    obtain ⟨rfl, rfl, rfl⟩ := hcs
    exact ⟨none, 0, [], rfl, Or.inl rfl, Nat.zero_le _, fun _ h => by cases h⟩
  · simp [Value.cells] at hcs
    obtain ⟨rfl, rfl, rfl⟩ := hcs
    simp only [if_true] at hz
    have hlen : (zs.take len).length = len := by rw [List.length_take]; omega
    refine ⟨some a, cap, zs.take len, by rw [hlen], ?_, by rw [hlen]; omega, fun x hx => bounds_i64 (hws x (List.mem_of_mem_take hx))⟩
    by_cases h0 : len = 0
    · left; subst h0; simp [intCells]
    · right
      have hc0 := hcell 0 (by omega)
      obtain ⟨b, o, spot⟩ := a
      have hspot : spot = none := by simpa [Addr.add] using World.cell?_spot hc0
      subst hspot
      have hadd : ∀ i, (⟨b, o, none⟩ : Addr).add i = ⟨b, o + i, none⟩ := fun i => by unfold Addr.add; split <;> simp_all
      refine ⟨b, o, rfl, ?_, fun i v hv => ?_⟩
      · rw [hadd] at hc0; exact Read.lt_of_cell_int hc0
      · simp only [intCells, List.getElem?_map, Option.map_eq_some_iff] at hv
        obtain ⟨s, hs, rfl⟩ := hv
        rw [List.getElem?_take] at hs
        split at hs
        · have := hcell i (by omega)
          rw [hadd] at this
          rw [this, List.getD_eq_getElem?_getD, hs]; rfl
        · cases hs
end Go.Proofs.YtamgimdjnmcpaaaDoor
namespace Go.Proofs.YtamgimdjnmcpaaaDoor
open Go.ChangeShapes Go.WideShapes Go.ChangeAt Go.RowKit Go.WideMaps Go.WideElems
theorem Read.cellsInts : Tryd.prog.cellsOf 24 = 1 := by kernel_rfl
theorem Read.addr_of_cell {w : World} {a : Addr} {v : Value} (h : w.cell? (a.add 0) = some v) : a = ⟨a.block, a.off, none⟩ ∧ (∀ i, a.add i = ⟨a.block, a.off + i, none⟩) ∧ a.block < w.heap.size := by
  obtain ⟨b, o, spot⟩ := a
  have hspot : spot = none := by simpa [Addr.add] using World.cell?_spot h
  subst hspot
  have hadd : ∀ i, (⟨b, o, none⟩ : Addr).add i = ⟨b, o + i, none⟩ := fun i => by unfold Addr.add; split <;> simp_all
  rw [hadd] at h
  exact ⟨rfl, hadd, Read.lt_of_cell_int h⟩
/-- The first n integers of a row, as its cells say them. -/
theorem Read.row_at {w : World} {A : Option Addr} {n C : Nat} {Z : List Int} (hn : n ≤ C) (hz : Z.length = C) (hA : A = none → C = 0)
    (hc : ∀ a', A = some a' → 0 ≤ a'.block ∧ ∀ c, c < C → w.cell? (a'.add c) = some (.int .i64 (Z.getD c 0))) : RowAt w A (intCells (Z.take n)) := by
  by_cases h0 : n = 0
  · subst h0; left; simp [intCells]
  · cases A with
    | none => have := hA rfl; omega
    | some a' =>
      right
      have h := (hc a' rfl).2
      obtain ⟨e, hadd, hb⟩ := Read.addr_of_cell (h 0 (by omega))
      refine ⟨a'.block, a'.off, by rw [← e], hb, fun i v hv => ?_⟩
      simp only [intCells, List.getElem?_map, Option.map_eq_some_iff] at hv
      obtain ⟨x, hx, rfl⟩ := hv
      rw [List.getElem?_take] at hx
      split at hx
      · have hi := h i (by omega)
        rw [hadd] at hi
        rw [hi, List.getD_eq_getElem?_getD, hx]; rfl
      · cases hx
set_option maxRecDepth 100000 in
theorem Read.rows_of {H : Type} {enc : TypeId × Value → H} {W : World} {base : Nat} {v : Value} {d : DataW H} {p : List MemPlace} (hval : Value.okWide Tryd.prog W .any base 31 v)
    (h : DataW.Trod enc Tryd.prog W 0 (fun _ => true) true 31 v d p) :
    ∃ a c L, v = .slice a (L : List (List Int)).length c ∧ GridAt W a L ∧ L.length ≤ maxLen ∧ (∀ r ∈ L, r.length ≤ maxLen) ∧ ∀ r ∈ L, I64s r := by
  obtain ⟨a0, len, cap, rfl⟩ := okWide_slice Tryd.underlying31 hval
  obtain ⟨fuel, hf⟩ := h
  rcases Go.Deep.open_int_rows Tryd.underlying31 Tryd.underlying24 Tryd.underlying3 Read.cellsInts Read.cellsInt hf with ⟨hcs, hx⟩ | ⟨a, len', cap', A, L, C, Z, hcs, _, hl, hm, hx, hall⟩
  · simp [Value.cells] at hcs
    obtain ⟨rfl, rfl, rfl⟩ := hcs
    exact ⟨none, 0, [], rfl, GridAt.nil _ _, Nat.zero_le _, fun _ h => (by cases h), fun _ h => (by cases h)⟩
  · simp [Value.cells] at hcs
    obtain ⟨rfl, rfl, rfl⟩ := hcs
    let hs : List Hd := (List.range len).map fun r => ⟨A r, C r, (Z r).take (L r)⟩
    have hget : ∀ r, r < len → hs[r]? = some ⟨A r, C r, (Z r).take (L r)⟩ := fun r hr => by simp [hs, hr]
    have hmem : ∀ x ∈ hs, ∃ r, r < len ∧ x = ⟨A r, C r, (Z r).take (L r)⟩ := fun x hx => by
      simp only [hs, List.mem_map, List.mem_range] at hx
      obtain ⟨r, hr, rfl⟩ := hx; exact ⟨r, hr, rfl⟩
    have hlen : (hs.map Hd.l).length = len := by simp [hs]
    have hlr : ∀ r, r < len → ((Z r).take (L r)).length = L r := fun r hr => by
      obtain ⟨_, h1, _, h2, _⟩ := hall r (by omega)
      rw [List.length_take]; omega
    refine ⟨some a, cap, hs.map Hd.l, by rw [hlen], ⟨hs, rfl, ?_, fun x hx => ?_⟩, by rw [hlen]; omega, fun r hr => ?_, fun r hr => ?_⟩
    · by_cases h0 : len = 0
      · subst h0; exact Or.inl rfl
      · right
        obtain ⟨e, hadd, hb⟩ := Read.addr_of_cell (hall 0 (by omega)).1
        refine ⟨a.block, a.off, by rw [← e], hb, fun i v hv => ?_⟩
        simp only [hdCells, List.getElem?_map, Option.map_eq_some_iff] at hv
        obtain ⟨x, hx, rfl⟩ := hv
        have hi : i < len := by
          have := (List.getElem?_eq_some_iff.1 hx).1
          simpa [hs] using this
        rw [hget i hi] at hx
        cases hx
        have hc := (hall i (by omega)).1
        rw [hadd] at hc
        rw [hc, Hd.val, hlr i hi]
    · obtain ⟨r, hr, rfl⟩ := hmem x hx
      obtain ⟨_, h1, _, h2, _, h3, h4⟩ := hall r (by omega)
      exact Read.row_at h1 h2 h3 h4
    · simp only [List.mem_map] at hr
      obtain ⟨x, hx, rfl⟩ := hr
      obtain ⟨r, hr, rfl⟩ := hmem x hx
      obtain ⟨_, h1, h2, _⟩ := hall r (by omega)
      rw [hlr r hr]; omega
    · simp only [List.mem_map] at hr
      obtain ⟨x, hx, rfl⟩ := hr
      obtain ⟨r, hr, rfl⟩ := hmem x hx
      obtain ⟨_, _, _, _, h5, _⟩ := hall r (by omega)
      exact fun n hn => bounds_i64 (h5 n (List.mem_of_mem_take hn))
end Go.Proofs.YtamgimdjnmcpaaaDoor
namespace Go.Proofs.YtamgimdjnmcpaaaDoor
open Go.RowKit

theorem tot_rows {L : List (List Int)} (h : tot L ≤ 1048576) : (∀ p ∈ L, p.length ≤ 1048576) ∧ L.length ≤ 1048576 := by
  unfold tot at h
  refine ⟨fun p hp => ?_, by omega⟩
  obtain ⟨i, hi, rfl⟩ := List.mem_iff_getElem.1 hp
  have := len_le_sumLen hi; omega
end Go.Proofs.YtamgimdjnmcpaaaDoor
