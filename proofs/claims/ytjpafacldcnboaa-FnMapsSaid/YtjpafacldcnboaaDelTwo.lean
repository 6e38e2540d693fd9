/-
  The walk of the library's Delete of two integers.
-/
import Derived.Test.YtjpafacldcnboaaBase
import Derived.Test.YtjpafacldcnboaaSlice
import Derived.Test.YtjpafacldcnboaaInts
import Derived.Test.YtjpafacldcnboaaGrid
import Derived.Test.YtjpafacldcnboaaGridRows
import Derived.Test.YtjpafacldcnboaaOwn
import Derived.Test.YtjpafacldcnboaaAppend
import Derived.Test.YtjpafacldcnboaaClass
import Derived.Test.YtjpafacldcnboaaLab
import Derived.Test.YtjpafacldcnboaaMap
import Derived.Test.YtjpafacldcnboaaMapA
import Derived.Test.YtjpafacldcnboaaMapB
import Derived.Test.YtjpafacldcnboaaMapC
import Derived.Test.YtjpafacldcnboaaPut
import Derived.Deep.QuietTactic
import Derived.BigQuiet
import Derived.Deep.RegionLaw
import Derived.StillTailTactics
import Derived.Lib.SliceRun
namespace Go.Proofs.Ytjpafacldcnboaa
open Go.RowKit

set_option maxRecDepth 100000 in
theorem zero_int : ∀ w : World, (zeroValue 3).run Try.prog w = .ok (.int .i64 0) w := fun w => by kernel_rfl
set_option maxRecDepth 10000 in
set_option maxHeartbeats 2000000 in
theorem lib_DeleteTwo (g cap n q lo : Nat) (xs : List Value) (w : World) (hown : w.ownsRow lo 3 1 (.slice (some ⟨g, 0, none⟩) n cap) n xs) (hone : ∀ u ∈ xs, u.oneCell' = true) (hq : q + 2 ≤ n) (hn : n ≤ 1000) :
    Calls Try.prog 155 #[.slice (some ⟨g, 0, none⟩) n cap, .int .i64 (q : Int), .int .i64 ((q : Int) + 2)] w fun e w' => e = .returned (.slice (some ⟨g, 0, none⟩) (n - 2) cap) ∧ w'.ownsRow lo 3 1 (.slice (some ⟨g, 0, none⟩) (n - 2) cap) (n - 2) (xs.take q ++ xs.drop (q + 2)) ∧ Below lo w w' ∧ ∀ k, k ≠ g → w'.heap[k]? = w.heap[k]? := by
  have hfin := fun m => Pt.erased2 (m := m) hown hq (.int .i64 0)
  have hxl : xs.length = n := by rw [hown.1, Nat.mul_one]
  have hcells : ∀ j, j < n → w.cell? ⟨g, j, none⟩ = xs[j]? := fun j hj => hown.cellAt j (by omega)
  have hfroz := hown.frozenAt
  obtain ⟨_, _, hcw, hcap, hcm⟩ := own_form hown (by omega)
  cases hcw
  obtain ⟨i0, hi0, hz0, hz1, hz2⟩ := info_int_parts
  have Hi0 := Lib.hid hi0; have Hz1 := Lib.hid hz1
  obtain ⟨A, hA, hnews⟩ : ∃ A : Addr, (if cap = q + 2 then some (⟨g, 0, none⟩ : Addr) else some ⟨g, q + 2, none⟩) = some A ∧ Hid (∀ j u, (xs.drop (q + 2))[j]? = some u → w.drew.cell? (A.add j) = some u) := by
    by_cases h : cap = q + 2
    · refine ⟨⟨g, 0, none⟩, by simp [h], fun j u hu => ?_⟩
      rw [List.drop_eq_nil_of_le (by omega)] at hu
      simp at hu
    · refine ⟨⟨g, q + 2, none⟩, by simp [h], fun j u hu => ?_⟩
      rw [List.getElem?_drop] at hu
      have hj : q + 2 + j < n := by
        have := (List.getElem?_eq_some_iff.1 hu).1
        omega
      rw [show (⟨g, q + 2, none⟩ : Addr).add j = ⟨g, q + 2 + j, none⟩ from by unfold Addr.add; split <;> simp_all]
      show w.cell? _ = _
      rw [hcells _ hj]; exact hu
  have Hnews : Hid ((xs.drop (q + 2)).length = (n - (q + 2)) * 1) := Lib.hid (by rw [List.length_drop, hxl]; omega)
  have Hone : Hid (∀ u ∈ xs.drop (q + 2), u.oneCell' = true) := Lib.hid (fun u hu => hone u (List.mem_of_mem_drop hu))
  have Hspare : Hid (∀ j, j < (xs.drop (q + 2)).length → (w.drew.cell? ⟨g, 0 + q * 1 + j, none⟩).isSome = true ∧ w.drew.frozen? ⟨g, 0 + q * 1 + j, none⟩ = false) := Lib.hid (fun j hj => by
    rw [List.length_drop, hxl] at hj
    refine ⟨?_, hfroz _⟩
    show (w.cell? _).isSome = true
    rw [hcells _ (by omega), List.getElem?_eq_getElem (by omega)]; rfl)
  obtain ⟨cur, hcur, hcsz⟩ : ∃ cur : Array Value, Blk w g 3 cur ∧ n ≤ cur.size := by
    rcases hown.2 with ⟨e, _⟩ | ⟨g', cap', cur, e, _, hh, hle, _, hcs, _⟩
    · cases e
    · cases e; exact ⟨cur, hh, by rw [hcs]; omega⟩
  have Hblk := Lib.hid (Pt.blk (xs.drop (q + 2)) q hcur.drew); have Hcsz := Lib.hid hcsz
  have Hfin := Lib.hid hfin
  have k1 : q ≤ n := by omega
  have k2 : q + 2 ≤ n := by omega
  have k3 : (q : Int) + 2 ≤ (n : Int) := by omega
  have k4 : (0 : Int) ≤ (q : Int) + 2 := by omega
  have k6 : ((q : Int) + 2).toNat = q + 2 := by omega
  have k7 : (q : Int) ≤ (q : Int) + 2 := by omega
  have k8 : (n : Int) ≤ (cap : Int) := by omega
  have k9 : ¬ cap = q := by omega
  have k10 : (q : Int) ≤ (n : Int) := by omega
  have k11 : (q : Int) ≤ (cap : Int) := by omega
  have k12 : q ≤ cap := by omega
  have k13 : ((q : Int) == (q : Int) + 2) = false := beq_eq_false_iff_ne.2 (by omega)
  have k14 : (q : Int) + 2 ≤ (cap : Int) := by omega
  have hroom : q + (n - (q + 2)) ≤ cap := by omega
  clear hcur hcsz hfin hcells hfroz hown hi0 hz0 hz1 hz2 hone
  go_enter Try.func155, Try.ntmps155
  go_wp2
  go_region_law (refine step_append_room rfl (.tmp 22) (.tmp 25) 22 rfl 3 i0 1 Try.underlying22 Hi0.out Hz1.out g 0 q cap (by rfl) A (n - (q + 2)) _ (xs.drop (q + 2)) (by rfl) Hnews.out hnews.out Hone.out hroom Hspare.out ?_)
  have hcl : ∀ ty, (Builtin.clear_ #[22] ty #[.slice (some ⟨g, q + (n - (q + 2)), none⟩) (n - (q + (n - (q + 2)))) (cap - (q + (n - (q + 2))))]).run Try.prog (w.drew.setCells g q (xs.drop (q + 2))) = .ok (.tuple #[]) ((w.drew.setCells g q (xs.drop (q + 2))).setCells g (q + (n - (q + 2))) (List.replicate (n - (q + (n - (q + 2)))) (.int .i64 0))) :=
    fun ty => Lib.run_clear_slice _ _ _ ty _ Try.underlying22 zero_int rfl rfl g (q + (n - (q + 2))) _ _ (by omega) (fun j hj => by
      have hk := Hblk.out
      rw [hk.cell]
      rw [Array.getElem?_eq_getElem (by rw [Pt.putAll_size]; have := Hcsz.out; omega)]; rfl) (fun j hj => by rw [Hblk.out.frozen])
  have Hcl := Lib.hid hcl
  clear hcl
  all_goals
    have hcl := Hcl.out
    go_wp2
    go_ret
    have e1 : q + (n - (q + 2)) = n - 2 := by omega
    have e2 : n - (n - 2) = 2 := by omega
    have hf := Hfin.out 1
    refine ⟨?_, ?_⟩
    · show _ = Ending.returned (.slice (some ⟨g, 0, none⟩) (n - 2) cap)
      rw [← e1]; rfl
    · rw [e1, e2]
      exact hf
end Go.Proofs.Ytjpafacldcnboaa
