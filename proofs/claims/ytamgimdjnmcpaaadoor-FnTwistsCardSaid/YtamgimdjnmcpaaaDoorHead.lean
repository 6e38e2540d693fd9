/-
  Regions that draw their order, load, call and store: the operations ahead of the last ones come up in whatever order, a condition on the world held behind each of them; the last ones, each of which waits for all before it, in their own order.
-/
import Derived.StillTail
import Derived.StillTailTactics
import Derived.Deep.RegionHeld
namespace Go.Proofs.YtamgimdjnmcpaaaDoor
open Go

section
variable {P : Program} {ops : Array Oper} {Q : Exit → Act → World → Prop} {md : Region.Mode} {S : World → Prop}

/-- f operations, all of them among the first n, come up in whatever order; S behind each; then L. -/
def HdAny (P : Program) (md : Region.Mode) (ops : Array Oper) (Q : Exit → Act → World → Prop) (S : World → Prop) (n : Nat) (L : Array Bool → Act → World → Prop) : Nat → Array Bool → Act → World → Prop
  | 0, listed, a, w => L listed a w
  | f + 1, listed, a, w => Region.ready md ops listed ≠ [] ∧ ∀ i ∈ Region.ready md ops listed, i < n ∧ wpOp P ops Q i (fun a' w' => S w' ∧ HdAny P md ops Q S n L f (listed.setIfInBounds i true) a' w') a w

theorem HdAny.any {n g : Nat} {L : Array Bool → Act → World → Prop} (hL : ∀ listed a w, L listed a w → wpAny P md ops Q g listed a w) :
    ∀ (f : Nat) (listed : Array Bool) (a : Act) (w : World), HdAny P md ops Q S n L f listed a w → wpAny P md ops Q (f + g) listed a w
  | 0, _, _, _, h => by rw [Nat.zero_add]; exact hL _ _ _ h
  | f + 1, listed, a, w, h => by
    have e : f + 1 + g = (f + g) + 1 := by omega
    rw [e]
    exact ⟨fun h0 => (h.1 h0).elim, fun i hi => wpOp_mono (fun a' w' k => HdAny.any hL f _ a' w' k.2) (h.2 i hi).2⟩

/-- Operation n waits for i, by way of others. -/
def reachB (md : Region.Mode) (ops : Array Oper) (n : Nat) : Nat → Nat → Bool
  | 0, _ => false
  | f + 1, i => (List.range (n + 1)).any fun j => Region.waitsFor md ops j i && (j == n || reachB md ops n f j)

/-- So nothing from n on comes up ahead of i. -/
theorem reach_waits {n : Nat} (hc : Region.chainB md ops n = true) {listed : Array Bool} (inv : HeadInv md ops n listed) :
    ∀ (f i : Nat), reachB md ops n f i = true → listed.getD i true = false → ∀ t, n ≤ t → t ∉ Region.ready md ops listed
  | 0, _, h, _, _, _ => by cases h
  | f + 1, i, h, hun, t, ht => fun hr => by
    obtain ⟨_, ot, hot, hall⟩ := mem_ready.1 hr
    have hts : t < ops.size := (Array.getElem?_eq_some_iff.1 hot).1
    by_cases htn : t = n
    · subst htn
      obtain ⟨j, hj, hj2⟩ := List.any_eq_true.1 h
      have hjt := List.mem_range.1 hj
      simp only [Bool.and_eq_true, Bool.or_eq_true, beq_iff_eq] at hj2
      obtain ⟨oj, hoj, e, he, hb, hon⟩ := Region.waitsFor_spec hj2.1
      by_cases hjn : j = t
      · subst hjn
        cases hoj.symm.trans hot
        have h2 := hall e he hb
        rw [hon, getD_both hun] at h2
        cases h2
      · rcases hj2.2 with q | q
        · exact hjn q
        · cases hl : listed.getD j false with
          | true =>
            have h2 := inv.closed j oj hoj hl e he hb
            rw [hon, getD_both hun] at h2
            cases h2
          | false => exact reach_waits hc inv f j q (getD_in (by rw [inv.size]; omega) hl) t (Nat.le_refl _) hr
    · have h1 := List.all_eq_true.1 hc t (List.mem_range.2 hts)
      simp only [Bool.or_eq_true, decide_eq_true_eq] at h1
      rcases h1 with q | q
      · omega
      · obtain ⟨o', ho', e, he, hb, hon⟩ := Region.waitsFor_spec q
        cases ho'.symm.trans hot
        have h2 := hall e he hb
        rw [hon, getD_both (inv.tail (t - 1) (by omega) (by omega))] at h2
        cases h2

/-- One that yields the same in every world that meets S is taken first. -/
theorem HdAny.first {n i : Nat} {oi : Oper} {v : Value} {L : Array Bool → Act → World → Prop} (hi : ops[i]? = some oi) (hsel : Region.noSelect ops = true)
    (hQ : ∀ c a w, Q (.panic c) (a.put oi.dst v) w → Q (.panic c) a w)
    {q : Nat} (hs : reachB md ops n q i = true) (hc : Region.chainB md ops n = true)
    (hdone : ∀ listed a w, L listed a w → ∀ j ∈ Region.ready md ops listed, n ≤ j) :
    ∀ (f : Nat) (listed : Array Bool) (a : Act) (w : World), HeadInv md ops n listed →
      (∀ j oj, ops[j]? = some oj → j ≠ i → listed.getD j true = false → (∀ e ∈ oj.after, Region.binds md e = true → e.on ≠ i) → oi.apart ops oj = true) →
      i ∈ Region.ready md ops listed → YieldsIf P ops S oi v a → S w →
      HdAny P md ops Q S n L f (listed.setIfInBounds i true) (a.put oi.dst v) w → HdAny P md ops Q S n L (f + 1) listed a w := by
  have hno := Region.noSelect_spec hsel
  intro f
  induction f with
  | zero =>
    intro listed a w inv _ hr hy hS H
    have hun := (mem_ready.1 hr).1
    refine ⟨List.ne_nil_of_mem hr, fun j hj => ⟨?_, ?_⟩⟩
    · exact Nat.lt_of_not_le fun h => reach_waits hc inv q i hs hun j h hj
    · by_cases hji : j = i
      · subst hji; exact hy.wpOp hi hS ⟨hS, H⟩
      · have h1 := hdone _ _ _ H j (ready_mono hj hji)
        exact (reach_waits hc inv q i hs hun j h1 hj).elim
  | succ f ih =>
    intro listed a w inv hfree hr hy hS H
    have hun := (mem_ready.1 hr).1
    refine ⟨List.ne_nil_of_mem hr, fun j hj => ?_⟩
    have hjn : j < n := Nat.lt_of_not_le fun h => reach_waits hc inv q i hs hun j h hj
    refine ⟨hjn, ?_⟩
    by_cases hji : j = i
    · subst hji; exact hy.wpOp hi hS ⟨hS, H⟩
    · obtain ⟨hjun, oj, hoj, hall⟩ := mem_ready.1 hj
      have hnot : ∀ e ∈ oj.after, Region.binds md e = true → e.on ≠ i := fun e he hb heq => by
        have h1 := hall e he hb
        rw [heq, getD_both hun] at h1
        cases h1
      refine wpOp_mono (fun a' w' k => ⟨k.2.1, ih _ a' w' (inv.set hj hjn) (fun k' ok hk hki huk hok => ?_) (ready_mono hr (Ne.symm hji)) k.1 k.2.1 ?_⟩)
        (wpOp_putIf hoj (hfree j oj hoj hji hjun hnot) (fun cs b => hno i oi cs b hi) (fun cs b => hno j oj cs b hoj) hQ hy (H.2 j (ready_mono hj hji)).2)
      · refine hfree k' ok hk hki ?_ hok
        by_cases hjk : j = k'
        · subst hjk; exact hjun
        · rw [getD_set_ne true hjk] at huk; exact huk
      · rw [Array.setIfInBounds_comm _ _ hji]
        exact k.2.2

/-- What 'HeadInv' asks, as a Bool. -/
def headB (md : Region.Mode) (ops : Array Oper) (n : Nat) (listed : Array Bool) : Bool :=
  (listed.size == ops.size) && ((List.range ops.size).all fun j => !listed.getD j false || ((ops[j]?).map fun o => o.after.all fun e => !Region.binds md e || listed.getD e.on false).getD true) && ((List.range ops.size).all fun t => decide (t < n) || !listed.getD t true)

theorem headB_spec {n : Nat} {listed : Array Bool} (h : headB md ops n listed = true) : HeadInv md ops n listed := by
  simp only [headB, Bool.and_eq_true, beq_iff_eq, List.all_eq_true, List.mem_range, Bool.or_eq_true, Bool.not_eq_true', decide_eq_true_eq] at h
  obtain ⟨⟨h1, h2⟩, h3⟩ := h
  refine ⟨h1, fun j oj hj hl e he hb => ?_, fun t ht hts => ?_⟩
  · have hjs : j < ops.size := (Array.getElem?_eq_some_iff.1 hj).1
    rcases h2 j hjs with q | q
    · rw [hl] at q; cases q
    · rw [hj, Option.map_some, Option.getD_some] at q
      have h5 := Array.all_eq_true_iff_forall_mem.1 q e he
      simp only [hb, Bool.not_true, Bool.false_or] at h5
      exact h5
  · rcases h3 t hts with q | q
    · omega
    · exact q

/-- What is asked behind the head: the others are left, in their own order. -/
def Tail (P : Program) (md : Region.Mode) (ops : Array Oper) (Q : Exit → Act → World → Prop) (n g : Nat) (l : List Oper) (listed : Array Bool) (a : Act) (w : World) : Prop :=
  Region.seqB md ops g n listed = true ∧ wpList P ops Q l a w

theorem at_drop {l r : List Oper} {i : Nat} {o : Oper} (h : l.drop i = o :: r) : l.toArray[i]? = some o := by
  rw [List.getElem?_toArray]
  have h1 : (l.drop i)[0]? = some o := by rw [h]; rfl
  rw [List.getElem?_drop] at h1
  simpa using h1
/-- What a take asks of the region's edges. -/
def takeB (md : Region.Mode) (ops : Array Oper) (n i : Nat) (listed : Array Bool) : Bool :=
  Region.noSelect ops && reachB md ops n n i && Region.chainB md ops n && headB md ops n listed && Region.free md ops listed i && (Region.ready md ops listed).contains i
/-- Take number i first. -/
theorem HdAny.take {n g i : Nat} {l0 r : List Oper} {oi : Oper} {v : Value} {l : List Oper} {f : Nat} {listed : Array Bool} {a : Act} {w : World} (hd : l0.drop i = oi :: r)
    (hb : takeB md l0.toArray n i listed = true)
    (hQ : ∀ c a w, Q (.panic c) (a.put oi.dst v) w → Q (.panic c) a w) (hw : Region.wanted oi (yielded l0.toArray a.tmps) = true) (hy : ∀ w, S w → (execOp a.eval oi).run P w = .ok (.value v) w) (hS : S w)
    (h : HdAny P md l0.toArray Q S n (Tail P md l0.toArray Q n g l) f (listed.setIfInBounds i true) (a.put oi.dst v) w) : HdAny P md l0.toArray Q S n (Tail P md l0.toArray Q n g l) (f + 1) listed a w := by
  have hi := at_drop hd
  have hy : YieldsIf P l0.toArray S oi v a := Or.inl ⟨hw, hy⟩
  simp only [takeB, Bool.and_eq_true, decide_eq_true_eq] at hb
  obtain ⟨⟨⟨⟨⟨b1, b2⟩, b3⟩, b6⟩, b7⟩, b8⟩ := hb
  exact HdAny.first hi b1 hQ b2 b3 (fun _ _ _ hL => seqB_ready hL.1) f listed a w (headB_spec b6) (Region.free_spec hi b7) (by simpa using b8) hy hS h

/-- Number i alone can come up. -/
theorem HdAny.one {n i : Nat} {l0 r : List Oper} {oi : Oper} {L : Array Bool → Act → World → Prop} {f : Nat} {listed : Array Bool} {a : Act} {w : World} (hd : l0.drop i = oi :: r)
    (hb : (decide (Region.ready md l0.toArray listed = [i]) && decide (i < n)) = true)
    (h : ∀ K : Act → World → Prop, Shut (∀ a' w', S w' → (S w' → HdAny P md l0.toArray Q S n L f (listed.setIfInBounds i true) a' w') → K a' w') → if Region.wanted oi (yielded l0.toArray a.tmps) = true then Oper.wp P oi a w K Q else K (a.put oi.dst undef) w) :
    HdAny P md l0.toArray Q S n L (f + 1) listed a w := by
  have hi := at_drop hd
  simp only [Bool.and_eq_true, decide_eq_true_eq] at hb
  refine ⟨by rw [hb.1]; exact List.cons_ne_nil _ _, fun j hj => ?_⟩
  rw [hb.1, List.mem_singleton] at hj
  subst hj
  exact ⟨hb.2, wpOp_step hi fun K hK => h K fun a' w' hS hW => hK a' w' ⟨hS, hW hS⟩⟩

/-- All of the head have come up. -/
theorem HdAny.done {n g : Nat} {l : List Oper} {listed : Array Bool} {a : Act} {w : World} (hb : Region.seqB md ops g n listed = true) (h : wpList P ops Q l a w) :
    HdAny P md ops Q S n (Tail P md ops Q n g l) 0 listed a w := ⟨hb, h⟩

/-- The beginning: the region whole. -/
theorem wp_region_free {id : Nat} {a : Act} {w : World} {l : List Oper} (F : Nat) (hm : P.follows .mixedOrders = true) (hl : l.length = F)
    (h : wpAny P .any l.toArray Q F (Array.replicate l.length false) a w.drew) : (Code.region id l.toArray true).wp P Q a w := by
  subst hl
  exact wp_region_any hm h
/-- Number i, which yields the same in whatever world, is taken first. -/
theorem any_take {i : Nat} {l0 r : List Oper} {oi : Oper} {v : Value} {f : Nat} {listed : Array Bool} {a : Act} {w : World} (hd : l0.drop i = oi :: r)
    (hb : (Region.noSelect l0.toArray && Region.free md l0.toArray listed i && (Region.ready md l0.toArray listed).contains i) = true)
    (hQ : ∀ c a w, Q (.panic c) (a.put oi.dst v) w → Q (.panic c) a w) (hw : Region.wanted oi (yielded l0.toArray a.tmps) = true) (hy : ∀ w, (execOp a.eval oi).run P w = .ok (.value v) w)
    (h : wpAny P md l0.toArray Q f (listed.setIfInBounds i true) (a.put oi.dst v) w) : wpAny P md l0.toArray Q (f + 1) listed a w := by
  simp only [Bool.and_eq_true] at hb
  exact wpAny_take (at_drop hd) hb.1.1 hb.1.2 hb.2 hQ (Or.inl ⟨hw, hy⟩) h
/-- The head begins: f operations of it are left, and g behind them. -/
theorem any_head {a : Act} {w : World} {l : List Oper} {listed : Array Bool} {F : Nat} (n f g : Nat) (S : World → Prop) (hF : F = f + g) (hl : l.length = n + g) (hS : S w)
    (h : S w → HdAny P md l.toArray Q S n (Tail P md l.toArray Q n g (l.drop n)) f listed a w) : wpAny P md l.toArray Q F listed a w := by
  subst hF
  have hd : (l.drop n).length = g := by rw [List.length_drop]; omega
  exact HdAny.any (g := g) (fun listed a' w' hL => by
    have h1 := wpAny_of_seq (md := md) (Q' := Q) (l.drop n) n listed a' w' (fun j => by simp [List.getElem?_drop]) (by rw [hd]; exact hL.1) hL.2
    rwa [hd] at h1) _ _ _ _ (h hS)
end
end Go.Proofs.YtamgimdjnmcpaaaDoor
