/-
  append of a row to a row of the call's own.
-/
import Derived.Test.YtehibigjdbpikaaGreatDoorBase
import Derived.Test.YtehibigjdbpikaaGreatDoorSlice
import Derived.Test.YtehibigjdbpikaaGreatDoorInts
import Derived.Deep.Upon
import Derived.Deep.AppendSrc
import Derived.Lib.SlFresh
namespace Go.Proofs.YtehibigjdbpikaaGreatDoor
open Go.RowKit

theorem append_row {P : Program} {ops : Array Oper} {rest : List Oper} {o : Oper} {a : Act} {Q : Exit → Act → World → Prop} {W : World} (hgd : o.guard = none) (s x : Operand) (t : TypeId)
    (ho : o.op = .call { callee := .builtin .append, args := #[s, x], argTypes := #[t, t] })
    (base : Nat) (e : TypeId) (i : TypeInfo) (z : Value) (bytes : Nat) (ht : P.underlying t = some (.slice e)) (hi : P.info? e = some i) (hz : i.zero = some z)
    (hsize : i.size = 1) (hby : i.bytes = bytes) (hzs : z.cells.size = 1)
    (v : Value) (n : Nat) (xs : List Value) (hs : a.eval s = v) (hown : W.ownsRow base e 1 v n xs)
    (ad : Option Addr) (m c : Nat) (cs : List Value) (hx : a.eval x = .slice ad m c) (hr : RowAt W ad cs) (hm : cs.length = m) (hu : ∀ u ∈ cs, u.oneCell' = true)
    (h63 : n + m ≤ maxLen) (hbytes : (n + m) * bytes ≤ 140737488355328) (hbase : base ≤ W.heap.size)
    (h : ∀ v' w', w'.ownsRow base e 1 v' (n + m) (xs ++ cs) → W.grownBy w' v.ownBlock → wpList P ops Q rest (a.put o.dst v') w') :
    wpList P ops Q (o :: rest) a W := by
  rcases hr with rfl | ⟨b, off, rfl, hlt, hc⟩
  · obtain rfl : m = 0 := hm.symm
    have hv : ∃ bo cap, v = .slice bo n cap ∧ n ≤ cap := by
      obtain ⟨_, ⟨h1, rfl⟩ | ⟨g, cap, cur, h1, _, _, hle, _⟩⟩ := hown
      · exact ⟨none, 0, h1, Nat.le_refl _⟩
      · exact ⟨_, cap, h1, hle⟩
    obtain ⟨bo, cap, rfl, hle⟩ := hv
    have hsrc : Src P i.size t (.slice ad 0 c) 0 [] W := by
      cases ad with
      | none => exact Src.ofNil W ht c
      | some ad => exact Src.ofSlice W ht ad 0 c [] (by simp) (fun j u hj => by simp at hj) (fun _ h => by cases h)
    refine Lib.wpList_append_run_sl W hgd s x t ho _ _ hs hx (run_append_nothing W t t o.type e i ht hi bo n cap hle _ hsrc) (h _ _ ?_ (World.grownBy.refl _ _))
    simpa using hown
  · exact wpList_append_own W hgd s x t ho base e i z 1 bytes ht hi hz hsize hby hzs (by decide) v n xs hs hown ⟨b, off, none⟩ m c cs hx (by rw [hm, Nat.mul_one])
      (fun j u hj => by rw [show (⟨b, off, none⟩ : Addr).add j = ⟨b, off + j, none⟩ from by unfold Addr.add; split <;> simp_all]; exact hc j u hj) hu h63 hbytes hbase (fun v' w' h1 h2 _ => h v' w' h1 h2)
theorem intCells_one (l : List Int) : ∀ u ∈ intCells l, u.oneCell' = true := by
  intro u hu
  simp only [intCells, List.mem_map] at hu
  obtain ⟨x, _, rfl⟩ := hu
  rfl
end Go.Proofs.YtehibigjdbpikaaGreatDoor
