/-
  Regions that draw their order, by hand: what yields the same under a condition on the world is taken first, a call that alone can come up is met; what is asked of the region's edges stands in one Bool.
-/
import Derived.OrdersHeld
import Derived.Deep.RegionHeld
namespace Go.Proofs.YtehibigjdbpikaaGreatDoor
open Go

section
variable {P : Program} {Q : Exit → Act → World → Prop} {md : Region.Mode} {S : World → Prop}

theorem drop_at {l r : List Oper} {i : Nat} {o : Oper} (h : l.drop i = o :: r) : l.toArray[i]? = some o := by
  rw [List.getElem?_toArray]
  have h1 : (l.drop i)[0]? = some o := by rw [h]; rfl
  rw [List.getElem?_drop] at h1
  simpa using h1

/-- The beginning: S is shown of the world behind the draw. -/
theorem held_begin {id : Nat} {a : Act} {w : World} {l : List Oper} (F : Nat) (hm : P.follows .mixedOrders = true) (hl : l.length = F) (hS : S w.drew)
    (h : S w.drew → wpAnyH P .any l.toArray Q S F (Array.replicate F false) a w.drew) : (Code.region id l.toArray true).wp P Q a w := by
  subst hl
  exact wp_region_held_drew (S := S) hm hS (fun k => by simpa using h k)

/-- Number i, which yields the same in whatever world that meets S, is taken first. -/
theorem held_take {i : Nat} {l0 r : List Oper} {oi : Oper} {v : Value} {f : Nat} {listed : Array Bool} {a : Act} {w : World} (hd : l0.drop i = oi :: r)
    (hb : (Region.noSelect l0.toArray && Region.free md l0.toArray listed i && (Region.ready md l0.toArray listed).contains i) = true)
    (hQ : ∀ c a w, Q (.panic c) (a.put oi.dst v) w → Q (.panic c) a w) (hw : Region.wanted oi (yielded l0.toArray a.tmps) = true)
    (hy : ∀ w, S w → (execOp a.eval oi).run P w = .ok (.value v) w) (hS : S w)
    (h : wpAnyH P md l0.toArray Q S f (listed.setIfInBounds i true) (a.put oi.dst v) w) : wpAnyH P md l0.toArray Q S (f + 1) listed a w := by
  simp only [Bool.and_eq_true] at hb
  exact wpAnyH_take (drop_at hd) hb.1.1 hb.1.2 hb.2 hQ (Or.inl ⟨hw, hy⟩) hS h

/-- Number i alone can come up. -/
theorem held_one {i : Nat} {l0 r : List Oper} {oi : Oper} {f : Nat} {listed : Array Bool} {a : Act} {w : World} (hd : l0.drop i = oi :: r)
    (hb : decide (Region.ready md l0.toArray listed = [i]) = true)
    (h : ∀ K : Act → World → Prop, Shut (∀ a' w', S w' → (S w' → wpAnyH P md l0.toArray Q S f (listed.setIfInBounds i true) a' w') → K a' w') → if Region.wanted oi (yielded l0.toArray a.tmps) = true then Oper.wp P oi a w K Q else K (a.put oi.dst undef) w) :
    wpAnyH P md l0.toArray Q S (f + 1) listed a w :=
  wpAnyH_ready (of_decide_eq_true hb) (by simp) (AllReadyH.cons (drop_at hd) h AllReadyH.nil)

/-- All have come up. -/
theorem held_done {l0 : List Oper} {listed : Array Bool} {a : Act} {w : World} {f : Nat} (hb : (Region.ready md l0.toArray listed).isEmpty = true) (h : Q .normal a w) : wpAnyH P md l0.toArray Q S f listed a w :=
  wpAnyH_done (by simpa using hb) h f
end
end Go.Proofs.YtehibigjdbpikaaGreatDoor
