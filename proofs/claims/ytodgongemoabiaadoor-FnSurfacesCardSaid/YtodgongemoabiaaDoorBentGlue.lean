/-
  The walk of the model's draw of gluings that may be bent.
-/
import Derived.Test.YtodgongemoabiaaDoorBase
import Derived.Test.YtodgongemoabiaaDoorSlice
import Derived.Test.YtodgongemoabiaaDoorInts
import Derived.Test.YtodgongemoabiaaDoorOwn
import Derived.Test.YtodgongemoabiaaDoorAppend
import Derived.Test.YtodgongemoabiaaDoorGrid
import Derived.Test.YtodgongemoabiaaDoorGridWalk
import Derived.Test.YtodgongemoabiaaDoorGridRows
import Derived.Test.YtodgongemoabiaaDoorDraw
import Derived.Test.YtodgongemoabiaaDoorDrawGlue0
import Derived.Test.YtodgongemoabiaaDoorDrawGlue
import Derived.Test.YtodgongemoabiaaDoorHead
import Derived.Deep.Cut
namespace Go.Proofs.YtodgongemoabiaaDoor
open Go.RowKit

theorem append_rowN {P : Program} {ops : Array Oper} {rest : List Oper} {o : Oper} {a : Act} {W : World} {Q : Exit → Act → World → Prop} (hgd : o.guard = none) (s x : Operand) (t : TypeId)
    (ho : o.op = .call { callee := .builtin .append, args := #[s, x], argTypes := #[t, t] })
    (base : Nat) (e : TypeId) (i : TypeInfo) (z : Value) (bytes : Nat) (ht : P.underlying t = some (.slice e)) (hi : P.info? e = some i) (hz : i.zero = some z)
    (hsize : i.size = 1) (hby : i.bytes = bytes) (hzs : z.cells.size = 1)
    (v : Value) (n : Nat) (xs : List Value) (hs : a.eval s = v) (hown : W.ownsRow base e 1 v n xs)
    (ad : Option Addr) (m c : Nat) (cs : List Value) (hx : a.eval x = .slice ad m c) (hr : RowAt W ad cs) (hm : cs.length = m) (hu : ∀ u ∈ cs, u.oneCell' = true)
    (h63 : n + m ≤ maxLen) (hbytes : (n + m) * bytes ≤ 140737488355328) (hbase : base ≤ W.heap.size)
    (h : ∀ v' w', w'.ownsRow base e 1 v' (n + m) (xs ++ cs) → W.grownBy w' v.ownBlock → (v'.ownBlock = v.ownBlock ∨ v'.ownBlock = some W.heap.size) → wpList P ops Q rest (a.put o.dst v') w') :
    wpList P ops Q (o :: rest) a W := by
  have hw : Region.wanted o (yielded ops a.tmps) = true := by simp [Region.wanted, hgd]
  have h1 := step_append_rowN (K := wpList P ops Q rest) (Q := Q) (E := False) (ops := ops) hgd s x t ho base e i z bytes ht hi hz hsize hby hzs v n xs hs hown ad m c cs hx hr hm hu h63 hbytes hbase h
  rw [if_pos hw] at h1
  show if Region.wanted o (yielded ops a.tmps) = true then _ else _
  rw [if_pos hw]
  exact Or.inl h1
theorem Polys.gridc {w : World} {N g G n cg : Nat} {wr : World} {sv : Value} {l : List Int} {hs : List Hd} (R : Polys w N g wr sv l (.slice (some ⟨G, 0, none⟩) n cg) hs) : GridC wr (some ⟨G, 0, none⟩) (hs.map Hd.l) := by
  have ho := R.outer
  obtain ⟨a, c, e, hr⟩ := own_row ho (by rw [hdCells_len])
  cases e
  refine ⟨hs, rfl, hr, fun h hh => ?_, fun h hh => ?_⟩
  · obtain ⟨h1, _, b, hb⟩ := R.inner h hh
    obtain ⟨a', c', e', hr'⟩ := own_row h1 (intCells_len _)
    unfold Hd.val at e'
    cases e'; exact hr'
  · obtain ⟨h1, _, b, hb⟩ := R.inner h hh
    unfold Hd.val at h1
    rw [hb] at h1
    exact (own_cap h1).1
/-- Rows that were drawn; the cursor goes on. -/
def BentG (w : World) (g : Nat) (e : Ending) (w' : World) : Prop := ∃ a c L, e = .returned (.slice a (L : List (List Int)).length c) ∧ GridC w' a L ∧ L.length ≤ 14 ∧ (∀ r ∈ L, r.length ≤ 15) ∧ CurAt w' g ∧ w.grownBy w' (some g)
theorem PolyOut.bent {w w' : World} {g n cG G : Nat} {sv : Value} {l : List Int} {hs : List Hd} (R : Polys w w.heap.size g w' sv l (.slice (some ⟨G, 0, none⟩) n cG) hs) (hn : hs.length = n) (h1 : hs.length ≤ 14) (h2 : ∀ h ∈ hs, h.l.length ≤ 15) : BentG w g (.returned (.slice (some ⟨G, 0, none⟩) n cG)) w' :=
  ⟨_, cG, hs.map Hd.l, by rw [List.length_map, hn], R.gridc, by rw [List.length_map]; exact h1, fun r hr => by obtain ⟨h, hh, rfl⟩ := List.mem_map.1 hr; exact h2 h hh, R.cur, R.gro⟩
set_option maxRecDepth 10000 in
set_option maxHeartbeats 16000000 in
theorem l3Bent (g : Nat) (w : World) (hc : CurAt w g) :
    Calls Tryd.prog 37 #[.pointer (some ⟨g, 0, none⟩)] w (BentG w g) := by
  have hgl := hc.lt
  obtain ⟨i0, hi0, hz0, hz1, hz2⟩ := info_int_parts
  have Hi0 := Lib.hid hi0; have Hz0 := Lib.hid hz0; have Hz1 := Lib.hid hz1; have Hz2 := Lib.hid hz2
  obtain ⟨i1, hi1, hy0, hy1, hy2⟩ := info_ints_parts
  have Hi1 := Lib.hid hi1; have Hy0 := Lib.hid hy0; have Hy1 := Lib.hid hy1; have Hy2 := Lib.hid hy2
  have Hdr := Lib.hid (l3Draw g w hc)
  clear hi0 hz0 hz1 hz2 hi1 hy0 hy1 hy2 hc
  go_enter Tryd.func37, Tryd.ntmps37
  go_wp2_with fail
  refine Hdr.out.mono ?_
  rintro e w1 ⟨G, cG, hs, sv, l, rfl, R1, hn1, hn2, hlen⟩
  have HR1 := Lib.hid R1; have Hlen := Lib.hid hlen
  clear R1 hlen
  go_wp2_with fail
  refine (l1Below g 20 _ HR1.out.cur (by omega) (by omega)).mono ?_
  rintro e w2 ⟨⟨x, rfl, hx0, hx1⟩, hc2, hg2⟩
  have HR2 := Lib.hid (HR1.out.draw hgl hc2 hg2)
  have hNw : w.heap.size ≤ w2.heap.size := HR2.out.gro.size
  clear hc2 hg2 HR1
  by_cases e0 : x = 0
  · subst e0
    have hout1 := HR2.out.outer.alloc (.cells #[] 3)
    have hN1 : w.heap.size ≤ (w2.alloc (.cells #[] 3)).heap.size := by simp; omega
    have hK1 : (w2.alloc (.cells #[] 3)).heap.size = w2.heap.size + 1 := by simp
    have hq1 : hs.length + 1 ≤ maxLen := by unfold maxLen; omega
    have hq2 : (hs.length + 1) * 24 ≤ 140737488355328 := by omega
    have Hfin : Hid (∀ v3 w3, w3.ownsRow w.heap.size 46 1 v3 (hs.length + 1) (hdCells hs ++ [.slice (some ⟨w2.heap.size, 0, none⟩) 0 0]) → ((w2.alloc (.cells #[] 3)).alloc (.cells #[.slice (some ⟨w2.heap.size, 0, none⟩) 0 0] 46)).grownBy w3 (Value.slice (some ⟨G, 0, none⟩) hs.length cG).ownBlock → BentG w g (.returned v3) w3 ∧ ∃ a c, v3 = .slice a (hs.length + 1) c) := Lib.hid (fun v3 w3 ho hg => by
      have hp := HR2.out.push rfl hgl hg ho
      obtain ⟨G3, c3, rfl, _, _⟩ := own_form ho (by omega)
      refine ⟨PolyOut.bent hp (by simp) (by simp; omega) (fun h hh => ?_), _, _, rfl⟩
      rcases List.mem_append.1 hh with hh | hh
      · have := (Hlen.out h hh).2; omega
      · rw [List.mem_singleton.1 hh]; simp)
    go_wp2_with (at_builtin; refine append_litK (.slice (some ⟨w2.heap.size, 0, none⟩) 0 0) (w2.heap.size + 1) hK1 rfl (.tmp 10) (.tmp 12) 27 rfl w.heap.size 46 i1 _ 24 Tryd.underlying27 Hi1.out Hy0.out Hy1.out Hy2.out (by rfl) _ _ _ rfl hout1 (by rfl) _ rfl hq1 hq2 hN1 ?_; intro v3 w3 hown3 hg3; obtain ⟨hB, a3, c3, rfl⟩ := Hfin.out v3 w3 hown3 hg3; have HB := Lib.hid hB; clear hB hown3 hg3)
    go_ret
    exact HB.out
  · by_cases e1 : x = 1
    · subst e1
      obtain ⟨h, hp⟩ := get_some (l := hs) (i := 0) (by omega)
      have hcell := HR2.out.cell rfl hp
      obtain ⟨hown, hT, b, hb⟩ := HR2.out.inner h (get_mem hp)
      obtain ⟨hne, hr13⟩ := Hlen.out h (get_mem hp)
      obtain ⟨ha, hcap, hr⟩ := h
      simp only at hb hown hcell hT hne hr13
      subst hb
      have hrp : 0 < hr.length := List.length_pos_iff.2 hne
      have hz : ∃ z, hr[0]? = some z := ⟨hr[0], List.getElem?_eq_getElem hrp⟩
      obtain ⟨z, hz⟩ := hz
      have hzc : w2.cell? ⟨b, 0, none⟩ = some (.int .i64 z) := by
        have := own_cell hown hrp rfl
        rw [this]
        rw [List.getElem?_eq_getElem hrp] at hz
        rw [Option.some.inj hz]
      have hz9 := hT z (get_mem hz)
      have hr0 : (0 : Int) < (hr.length : Int) := by omega
      have hn0 : (0 : Int) < (hs.length : Int) := by omega
      have hn0N : 0 < hs.length := by omega
      have hn0Z : ¬ hs.length = 0 := by omega
      have hcellA : ∀ o : Obj, (w2.alloc o).cell? ⟨G, 0, none⟩ = some (.slice (some ⟨b, 0, none⟩) hr.length hcap) := fun o => by
        rw [((Below.refl w2.heap.size w2).alloc (Nat.le_refl _) o).cell (p := ⟨G, 0, none⟩) (HR2.out.outer.lt G rfl).2]; exact hcell
      have hzcA : ∀ o : Obj, (w2.alloc o).cell? ⟨b, 0, none⟩ = some (.int .i64 z) := fun o => by
        rw [((Below.refl w2.heap.size w2).alloc (Nat.le_refl _) o).cell (p := ⟨b, 0, none⟩) (hown.lt b rfl).2]; exact hzc
      have Hp := Lib.hid hp
      have R3 : Polys w w.heap.size g (w2.alloc (.cells #[.int .i64 z, .int .i64 8, .int .i64 9] 3)).drew sv l (.slice (some ⟨G, 0, none⟩) hs.length cG) hs :=
        HR2.out.aside rfl rfl (only_drew (World.grownBy.refl _ _))
      have Hpick := Lib.hid (l1PickInt g w2.heap.size 3 [z, 8, 9] (w2.alloc (.cells #[.int .i64 z, .int .i64 8, .int .i64 9] 3)).drew R3.cur (Blk.new w2 3 #[.int .i64 z, .int .i64 8, .int .i64 9]).drew (by have := HR2.out.cur.lt; omega) (by simp) (by simp))
      have HR3 := Lib.hid R3
      have hm3 : hr.length + 2 ≤ maxLen := by unfold maxLen; omega
      have hm4 : (hr.length + 2) * 8 ≤ 140737488355328 := by omega
      have hnxt : ∀ (u : Value) (w5 : World), u ∈ intCells [z, 8, 9] → CurAt w5 g → (w2.alloc (.cells #[.int .i64 z, .int .i64 8, .int .i64 9] 3)).drew.grownBy w5 (some g) → ∃ y, u = .int .i64 y ∧ -9 ≤ y ∧ y ≤ 9 ∧
          w5.cell? ⟨G, 0, none⟩ = some (.slice (some ⟨b, 0, none⟩) hr.length hcap) ∧ w5.cell? ⟨b, 0, none⟩ = some (.int .i64 z) ∧ Hid (Polys w w.heap.size g w5 sv l (.slice (some ⟨G, 0, none⟩) hs.length cG) hs) ∧
          (∀ o : Obj, (w5.alloc o).cell? ⟨G, 0, none⟩ = some (.slice (some ⟨b, 0, none⟩) hr.length hcap)) ∧ (∀ o : Obj, (w5.alloc o).cell? ⟨b, 0, none⟩ = some (.int .i64 z)) ∧
          Hid ((w5.alloc (.cells #[.int .i64 z, .int .i64 y] 3)).ownsRow w.heap.size 3 1 (.slice (some ⟨b, 0, none⟩) hr.length hcap) hr.length (intCells hr)) ∧ Hid (RowAt (w5.alloc (.cells #[.int .i64 z, .int .i64 y] 3)) (some ⟨w5.heap.size, 0, none⟩) (intCells [z, y])) ∧ w.heap.size ≤ (w5.alloc (.cells #[.int .i64 z, .int .i64 y] 3)).heap.size := fun u w5 hu hc5 hg5 => by
        have R5 := HR3.out.draw hgl hc5 hg5
        obtain ⟨y, hy, rfl⟩ := List.mem_map.1 hu
        have hown5 := (R5.inner _ (get_mem Hp.out)).1
        simp only [Hd.val] at hown5
        have c1 := R5.cell rfl Hp.out
        have c2 : w5.cell? ⟨b, 0, none⟩ = some (.int .i64 z) := by
          have := own_cell hown5 hrp rfl
          rw [this]
          rw [List.getElem?_eq_getElem hrp] at hz
          rw [Option.some.inj hz]
        have hN5 := R5.gro.size
        refine ⟨y, rfl, ?_, ?_, c1, c2, Lib.hid R5, fun o => ?_, fun o => ?_, Lib.hid (hown5.alloc _), Lib.hid (Blk.new w5 3 #[.int .i64 z, .int .i64 y]).row, by simp; omega⟩
        · simp only [List.mem_cons, List.not_mem_nil, or_false] at hy; rcases hy with rfl | rfl | rfl <;> omega
        · simp only [List.mem_cons, List.not_mem_nil, or_false] at hy; rcases hy with rfl | rfl | rfl <;> omega
        · rw [((Below.refl w5.heap.size w5).alloc (Nat.le_refl _) o).cell (p := ⟨G, 0, none⟩) (R5.outer.lt G rfl).2]; exact c1
        · rw [((Below.refl w5.heap.size w5).alloc (Nat.le_refl _) o).cell (p := ⟨b, 0, none⟩) (hown5.lt b rfl).2]; exact c2
      have Hnxt := Lib.hid hnxt
      have hlast : ∀ (y : Int) (w5 : World) (v6 : Value) (w6 : World), -9 ≤ y → y ≤ 9 → Polys w w.heap.size g w5 sv l (.slice (some ⟨G, 0, none⟩) hs.length cG) hs → w6.ownsRow w.heap.size 3 1 v6 (hr.length + 2) (intCells hr ++ intCells [z, y]) → (w5.alloc (.cells #[.int .i64 z, .int .i64 y] 3)).grownBy w6 (Value.slice (some ⟨b, 0, none⟩) hr.length hcap).ownBlock → (v6.ownBlock = (Value.slice (some ⟨b, 0, none⟩) hr.length hcap).ownBlock ∨ v6.ownBlock = some (w5.alloc (.cells #[.int .i64 z, .int .i64 y] 3)).heap.size) →
          w6.cell? ⟨G, 0, none⟩ = some (.slice (some ⟨b, 0, none⟩) hr.length hcap) ∧ w6.frozen? ⟨G, 0, none⟩ = false ∧ ∃ b6 c6, v6 = .slice (some ⟨b6, 0, none⟩) (hr.length + 2) c6 ∧ Hid (BentG w g (.returned (.slice (some ⟨G, 0, none⟩) hs.length cG)) (w6.setCell ⟨G, 0, none⟩ v6)) := fun y w5 v6 w6 y0 y1 R5 ho hg hk => by
        have R6 : Polys w w.heap.size g (w5.alloc (.cells #[.int .i64 z, .int .i64 y] 3)) sv l (.slice (some ⟨G, 0, none⟩) hs.length cG) hs := R5.aside rfl rfl (World.grownBy.refl _ _)
        obtain ⟨b6, c6, rfl, _, _⟩ := own_form ho (by omega)
        have hin := (R6.inner _ (get_mem Hp.out)).1
        have ho6 := kept_type R6.outer hin (by decide) hg
        have hins := R6.insert (hr' := hr ++ [z, y]) rfl hgl Hp.out hg (by rw [show intCells (hr ++ [z, y]) = intCells hr ++ intCells [z, y] from by simp [intCells]]; exact ho) (by simp) (fun q hq => by
          rcases List.mem_append.1 hq with hq | hq
          · exact hT q hq
          · simp only [List.mem_cons, List.not_mem_nil, or_false] at hq; rcases hq with rfl | rfl <;> omega) (by
          rcases hk with e | e
          · exact Or.inl (own_block e).symm
          · exact Or.inr (by have := own_block e; omega))
        have hc0 : hs.length > 0 := by omega
        refine ⟨?_, ho6.frozenAt 0, b6, c6, rfl, Lib.hid (PolyOut.bent hins (by simp) (by simp; omega) (fun h hh => ?_))⟩
        · rw [ho6.cellAt 0 (by omega), hdCells_get hc0]
          have := Hp.out
          rw [List.getElem?_eq_getElem hc0] at this
          rw [Option.some.inj this]; rfl
        · rcases List.mem_or_eq_of_mem_set hh with hh | rfl
          · have := (Hlen.out h hh).2; omega
          · simp; omega
      have Hlast := Lib.hid hlast
      clear R3 hlast hnxt hown hT hne hz hp
      go_wp2
      refine wp_region_free 21 (by kernel_rfl) rfl ?_
      refine any_take (i := 0) (v := ?_) rfl (by kernel_rfl) (fun _ _ _ h => h) rfl ?_ ?_
      rotate_left; · (intro w'; go_simp; try with_reducible rfl)
      try simp only [Act.put, List.setIfInBounds_toArray, List.set_cons_zero, List.set_cons_succ]
      refine any_head 18 17 3 (fun w' => w'.cell? ⟨G, 0, none⟩ = some (.slice (some ⟨b, 0, none⟩) hr.length hcap) ∧ w'.cell? ⟨b, 0, none⟩ = some (.int .i64 z)) rfl rfl ⟨hcell, hzc⟩ (fun hS => ?_)
      refine HdAny.take (i := 1) (v := ?_) rfl (by kernel_rfl) (fun _ _ _ h => h) rfl ?_ hS ?_
      rotate_left; · (intro w' hSw; go_split_ands; go_simp; try with_reducible rfl)
      try simp only [Act.put, List.setIfInBounds_toArray, List.set_cons_zero, List.set_cons_succ]
      refine HdAny.take (i := 2) (v := ?_) rfl (by kernel_rfl) (fun _ _ _ h => h) rfl ?_ hS ?_
      rotate_left; · (intro w' hSw; go_split_ands; go_simp; try with_reducible rfl)
      try simp only [Act.put, List.setIfInBounds_toArray, List.set_cons_zero, List.set_cons_succ]
      refine HdAny.take (i := 3) (v := ?_) rfl (by kernel_rfl) (fun _ _ _ h => h) rfl ?_ hS ?_
      rotate_left; · (intro w' hSw; go_split_ands; go_simp; try with_reducible rfl)
      try simp only [Act.put, List.setIfInBounds_toArray, List.set_cons_zero, List.set_cons_succ]
      refine HdAny.take (i := 4) (v := ?_) rfl (by kernel_rfl) (fun _ _ _ h => h) rfl ?_ hS ?_
      rotate_left; · (intro w' hSw; go_split_ands; go_simp; try with_reducible rfl)
      try simp only [Act.put, List.setIfInBounds_toArray, List.set_cons_zero, List.set_cons_succ]
      refine HdAny.take (i := 5) (v := ?_) rfl (by kernel_rfl) (fun _ _ _ h => h) rfl ?_ hS ?_
      rotate_left; · (intro w' hSw; go_split_ands; go_simp; try with_reducible rfl)
      try simp only [Act.put, List.setIfInBounds_toArray, List.set_cons_zero, List.set_cons_succ]
      refine HdAny.take (i := 6) (v := ?_) rfl (by kernel_rfl) (fun _ _ _ h => h) rfl ?_ hS ?_
      rotate_left; · (intro w' hSw; go_split_ands; go_simp; try with_reducible rfl)
      try simp only [Act.put, List.setIfInBounds_toArray, List.set_cons_zero, List.set_cons_succ]
      refine HdAny.take (i := 7) (v := ?_) rfl (by kernel_rfl) (fun _ _ _ h => h) rfl ?_ hS ?_
      rotate_left; · (intro w' hSw; go_split_ands; go_simp; try with_reducible rfl)
      try simp only [Act.put, List.setIfInBounds_toArray, List.set_cons_zero, List.set_cons_succ]
      refine HdAny.take (i := 8) (v := ?_) rfl (by kernel_rfl) (fun _ _ _ h => h) rfl ?_ hS ?_
      rotate_left; · (intro w' hSw; go_split_ands; go_simp; try with_reducible rfl)
      try simp only [Act.put, List.setIfInBounds_toArray, List.set_cons_zero, List.set_cons_succ]
      refine HdAny.take (i := 9) (v := ?_) rfl (by kernel_rfl) (fun _ _ _ h => h) rfl ?_ hS ?_
      rotate_left; · (intro w' hSw; go_split_ands; go_simp; try with_reducible rfl)
      try simp only [Act.put, List.setIfInBounds_toArray, List.set_cons_zero, List.set_cons_succ]
      refine HdAny.take (i := 10) (v := ?_) rfl (by kernel_rfl) (fun _ _ _ h => h) rfl ?_ hS ?_
      rotate_left; · (intro w' hSw; go_split_ands; go_simp; try with_reducible rfl)
      try simp only [Act.put, List.setIfInBounds_toArray, List.set_cons_zero, List.set_cons_succ]
      refine HdAny.take (i := 11) (v := ?_) rfl (by kernel_rfl) (fun _ _ _ h => h) rfl ?_ hS ?_
      rotate_left; · (intro w' hSw; go_split_ands; go_simp; try with_reducible rfl)
      try simp only [Act.put, List.setIfInBounds_toArray, List.set_cons_zero, List.set_cons_succ]
      refine HdAny.take (i := 12) (v := ?_) rfl (by kernel_rfl) (fun _ _ _ h => h) rfl ?_ hS ?_
      rotate_left; · (intro w' hSw; go_split_ands; go_simp; try with_reducible rfl)
      try simp only [Act.put, List.setIfInBounds_toArray, List.set_cons_zero, List.set_cons_succ]
      refine HdAny.take (i := 13) (v := ?_) rfl (by kernel_rfl) (fun _ _ _ h => h) rfl ?_ hS ?_
      rotate_left; · (intro w' hSw; go_split_ands; go_simp; try with_reducible rfl)
      try simp only [Act.put, List.setIfInBounds_toArray, List.set_cons_zero, List.set_cons_succ]
      refine HdAny.take (i := 14) (v := ?_) rfl (by kernel_rfl) (fun _ _ _ h => h) rfl ?_ hS ?_
      rotate_left; · (intro w' hSw; go_split_ands; go_simp; try with_reducible rfl)
      try simp only [Act.put, List.setIfInBounds_toArray, List.set_cons_zero, List.set_cons_succ]
      refine HdAny.one (i := 15) rfl (by kernel_rfl) (fun K hK => ?_)
      go_simp
      refine hK.out _ _ ⟨hcellA _, hzcA _⟩ (fun hS => ?_)
      clear hK K
      try simp only [Act.put, List.setIfInBounds_toArray, List.set_cons_zero, List.set_cons_succ]
      refine HdAny.one (i := 16) rfl (by kernel_rfl) (fun K hK => ?_)
      go_simp
      go_at_call 55
      refine Hpick.out.mono ?_
      rintro e w5 ⟨⟨u, hu, rfl⟩, hc5, hg5⟩
      obtain ⟨y, rfl, y0, y1, k1, k2, HR5, k3, k4, Hown5, Hrow5, hN5⟩ := Hnxt.out u w5 hu hc5 hg5
      clear hu hc5 hg5
      go_simp
      refine hK.out _ _ ⟨k1, k2⟩ (fun hS => ?_)
      clear hK K
      try simp only [Act.put, List.setIfInBounds_toArray, List.set_cons_zero, List.set_cons_succ]
      refine HdAny.one (i := 17) rfl (by kernel_rfl) (fun K hK => ?_)
      go_simp
      refine hK.out _ _ ⟨k3 _, k4 _⟩ (fun hS => ?_)
      clear hK K
      try simp only [Act.put, List.setIfInBounds_toArray, List.set_cons_zero, List.set_cons_succ]
      refine HdAny.done (by kernel_rfl) ?_
      simp only [List.drop_succ_cons, List.drop_zero]
      go_wp2_with (at_builtin; refine append_rowN rfl (.tmp 19) (.tmp 33) 46 rfl w.heap.size 3 i0 _ 8 Tryd.underlying46 Hi0.out Hz0.out Hz1.out Hz2.out (by rfl) _ hr.length _ (by rfl) Hown5.out _ 2 _ (intCells [z, y]) (by rfl) Hrow5.out (by rfl) (intCells_one _) hm3 hm4 hN5 ?_; intro v6 w6 hown6 hg6 hk6; obtain ⟨q1, q2, b6, c6, rfl, HB⟩ := Hlast.out y w5 v6 w6 y0 y1 HR5.out hown6 hg6 hk6; clear hown6 hg6 hk6)
      go_wp2
      go_ret
      exact HB.out
    · by_cases e2 : x = 2
      · subst e2
        go_wp2
        go_ret
        exact ⟨_, 0, [], rfl, ⟨[], rfl, Or.inl rfl, fun _ h => (by cases h), fun _ h => (by cases h)⟩, by simp, fun _ h => (by cases h), HR2.out.cur.alloc _, HR2.out.gro.trans (World.grownBy_alloc _ _ _)⟩
      · have e0' : (x == 0) = false := beq_eq_false_iff_ne.2 e0
        have e1' : (x == 1) = false := beq_eq_false_iff_ne.2 e1
        have e2' : (x == 2) = false := beq_eq_false_iff_ne.2 e2
        clear e0 e1 e2
        go_wp2
        go_ret
        exact PolyOut.bent HR2.out rfl (by omega) (fun h hh => by have := (Hlen.out h hh).2; omega)
end Go.Proofs.YtodgongemoabiaaDoor
