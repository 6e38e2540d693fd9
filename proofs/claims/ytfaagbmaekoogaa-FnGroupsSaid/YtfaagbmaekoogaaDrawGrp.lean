/-
  The walks of the model's draws of words of groups.
-/
import Derived.Test.YtfaagbmaekoogaaBase
import Derived.Test.YtfaagbmaekoogaaSlice
import Derived.Test.YtfaagbmaekoogaaInts
import Derived.Test.YtfaagbmaekoogaaOwn
import Derived.Test.YtfaagbmaekoogaaAppend
import Derived.Test.YtfaagbmaekoogaaWord
import Derived.Test.YtfaagbmaekoogaaTurn
import Derived.Test.YtfaagbmaekoogaaInvert
import Derived.Test.YtfaagbmaekoogaaDraw
import Derived.Test.YtfaagbmaekoogaaDrawWord
import Derived.Test.YtfaagbmaekoogaaAm
import Derived.Test.YtfaagbmaekoogaaGrpA
namespace Go.Proofs.Ytfaagbmaekoogaa
open Go.RowKit

/-- append of a row of integers to a row of the call's own, and where the row lies then. -/
theorem append_rowN {ops : Array Oper} {rest : List Oper} {o : Oper} {a : Act} {Q : Exit → Act → World → Prop} {W : World} (hgd : o.guard = none) (s x : Operand)
    (ho : o.op = .call { callee := .builtin .append, args := #[s, x], argTypes := #[42, 42] })
    (N : Nat) (l m : List Int) (ov : Value) (hs : a.eval s = ov) (h : W.ownsRow N 3 1 ov l.length (intCells l)) (ad : Option Addr) (c : Nat) (hx : a.eval x = .slice ad m.length c) (hr : RowAt W ad (intCells m)) (hN : N ≤ W.heap.size) (hlen : l.length + m.length ≤ 4194304) (r : List Int) (hlm : l ++ m = r)
    (k : ∀ av cv w', w'.ownsRow N 3 1 (.slice av r.length cv) r.length (intCells r) → W.grownBy w' ov.ownBlock → ((Value.slice av r.length cv).ownBlock = ov.ownBlock ∨ (Value.slice av r.length cv).ownBlock = some W.heap.size) → wpList Try.prog ops Q rest (a.put o.dst (.slice av r.length cv)) w') : wpList Try.prog ops Q (o :: rest) a W := by
  subst hlm
  obtain ⟨i0, hi0, hz0, hz1, hz2⟩ := info_int_parts
  have hap : intCells (l ++ m) = intCells l ++ intCells m := by simp [intCells]
  rcases hr with he | ⟨b, off, rfl, hlt, hc⟩
  · obtain rfl : m = [] := by simpa [intCells] using he
    have hv : ∃ bo cap, ov = .slice bo l.length cap ∧ l.length ≤ cap := by
      obtain ⟨_, ⟨h1, h2⟩ | ⟨g, cap, cur, h1, _, _, hle, _⟩⟩ := h
      · exact ⟨none, 0, by rw [h1, h2], by omega⟩
      · exact ⟨_, cap, h1, hle⟩
    obtain ⟨bo, cap, rfl, hle⟩ := hv
    have hsrc : Src Try.prog i0.size 42 (.slice ad 0 c) 0 [] W := by
      cases ad with
      | none => exact Src.ofNil W Try.underlying42 c
      | some ad => exact Src.ofSlice W Try.underlying42 ad 0 c [] (by simp) (fun j u hj => by simp at hj) (fun _ h => by cases h)
    refine Lib.wpList_append_run_sl W hgd s x 42 ho _ _ hs hx (run_append_nothing W 42 42 o.type 3 i0 Try.underlying42 hi0 bo l.length cap hle _ hsrc) ?_
    have e : (l ++ ([] : List Int)).length = l.length := by simp
    have := k bo cap W (by rw [List.append_nil]; exact h) (World.grownBy.refl _ _) (by rw [e]; exact Or.inl rfl)
    rw [e] at this; exact this
  · have hadd : ∀ j, (⟨b, off, none⟩ : Addr).add j = ⟨b, off + j, none⟩ := fun j => by unfold Addr.add; split <;> simp_all
    refine wpList_append_new hgd s x 42 ho N 3 i0 _ 1 8 Try.underlying42 hi0 hz0 hz1 hz2 (by rfl) (by decide) ov l.length (intCells l) hs h ⟨b, off, none⟩ m.length c (intCells m) hx (by rw [intCells_len, Nat.mul_one]) (fun j u hj => by rw [hadd]; exact hc j u hj) (intCells_one m) (by unfold maxLen; omega) (by omega) hN ?_
    intro v' w' hown hg hloc
    have hown' : w'.ownsRow N 3 1 v' (l ++ m).length (intCells (l ++ m)) := by rw [List.length_append, hap]; exact hown
    obtain ⟨av, cv, rfl⟩ := own_len hown'
    exact k av cv w' hown' hg hloc

/-- The cursor goes on, nothing else that was there has turned. -/
def CurG (w : World) (g : Nat) (W : World) : Prop := CurAt W g ∧ w.grownBy W (some g)
theorem CurG.drawn {w W W' : World} {g : Nat} (h : CurG w g W) (hc : CurAt W' g) (hg : W.grownBy W' (some g)) : CurG w g W' := ⟨hc, h.2.trans hg⟩
theorem CurG.below {w W W' : World} {g : Nat} (h : CurG w g W) (hb : Below W.heap.size W W') : CurG w g W' := ⟨h.1.below hb, h.2.trans (only_of_below hb _)⟩
theorem CurG.alloc {w W : World} {g : Nat} (h : CurG w g W) (o : Obj) : CurG w g (W.alloc o) := h.below ((Below.refl _ _).alloc (Nat.le_refl _) _)
theorem CurG.row {w W W' : World} {g : Nat} {row : Option Nat} (h : CurG w g W) (hg : W.grownBy W' row) (hgw : g < w.heap.size) (hr : ∀ k, row = some k → w.heap.size ≤ k) : CurG w g W' :=
  ⟨h.1.above hg (fun k hk => by have := hr k hk; omega), grown_both h.2 hg hr⟩
theorem CurG.size {w W : World} {g : Nat} (h : CurG w g W) : w.heap.size ≤ W.heap.size := h.2.size
/-- A row of the call's own stays where another's block turns. -/
theorem own_off {w w' : World} {base n : Nat} {row : Option Nat} {e : TypeId} {v : Value} {xs : List Value} (h : w.ownsRow base e 1 v n xs) (hg : w.grownBy w' row) (hne : ∀ k, v.ownBlock = some k → row ≠ some k) : w'.ownsRow base e 1 v n xs :=
  h.kept hg (by
    cases hvb : v.ownBlock with
    | none => exact .inl rfl
    | some k => exact .inr fun e => hne k hvb e.symm)
theorem own_below {w w' : World} {base n : Nat} {e : TypeId} {v : Value} {xs : List Value} (h : w.ownsRow base e 1 v n xs) (hb : Below w.heap.size w w') : w'.ownsRow base e 1 v n xs :=
  own_keep h hb (fun k hk => (h.lt k hk).2)
theorem own_at {w : World} {base c : Nat} {e : TypeId} {a : Option Addr} {l : List Int} (h : w.ownsRow base e 1 (.slice a l.length c) l.length (intCells l)) : RowAt w a (intCells l) := by
  obtain ⟨a', c', h1, _, hf⟩ := own_fresh h (intCells_len l)
  injection h1 with h1
  rw [h1]; exact hf.row
theorem own_cap {w : World} {base c : Nat} {e : TypeId} {a : Option Addr} {l : List Int} (h : w.ownsRow base e 1 (.slice a l.length c) l.length (intCells l)) : l.length ≤ c := by
  obtain ⟨a', c', h1, hle, _⟩ := own_fresh h (intCells_len l)
  injection h1 with _ _ h1
  rw [h1]; exact hle

/-- A number and a word. -/
def DrawnGW (w : World) (g : Nat) (e : Ending) (w' : World) : Prop := ∃ (G : Int) (a : Option Addr) (c : Nat) (l : List Int), e = .returned (.tuple #[.int .i64 G, .slice a l.length c]) ∧ -10 ≤ G ∧ G ≤ 10 ∧ RowAt w' a (intCells l) ∧ l.length ≤ 100 ∧ l.length ≤ c ∧ CurG w g w'
set_option maxRecDepth 100000 in
set_option maxHeartbeats 8000000 in
theorem l8Draw (g : Nat) (w : World) (hc : CurAt w g) :
    Calls Try.prog 118 #[.pointer (some ⟨g, 0, none⟩)] w (DrawnGW w g) := by
  have hgw := hc.lt
  have Hcur := Lib.hid (show CurG w g w from ⟨hc, World.grownBy.refl _ _⟩)
  go_enter Try.func118, Try.ntmps118
  go_wp2_with fail
  refine (l1Below g 2 w hc (by omega) (by omega)).mono ?_
  rintro e w1 ⟨⟨G0, rfl, hG0, hG1⟩, hc1, hg1⟩
  have Hcur1 := Lib.hid ((Hcur.out.drawn hc1 hg1).alloc (.cells #[] 3))
  have Hown1 := Lib.hid (own_mono (own_made (w := w1) rfl) hg1.size)
  clear hc1 hg1 hc
  go_wp2_with fail
  refine (l1Below g 3 _ Hcur1.out.1 (by omega) (by omega)).mono ?_
  rintro e w2 ⟨⟨n0, rfl, hn0, hn1⟩, hc2, hg2⟩
  have Hown2 := Lib.hid (own_cur Hown1.out hg2 hgw)
  have Hcur2 := Lib.hid (Hcur1.out.drawn hc2 hg2)
  clear hc2 hg2
  have hGr : Dn.Gr (1 + G0) := by unfold Dn.Gr; omega
  have hK0 : 1 ≤ 1 + G0 := by omega
  have hK1 : 1 + G0 ≤ 2 := by omega
  clear hG0 hG1
  generalize 1 + G0 = K at *
  go_wp2
  go_loopw [5, 6, 7, 8] (fun ov nv _ _ wr => ∃ (r : Nat) (l : List Int) (oa : Option Addr) (oc : Nat), nv = .int .i64 r ∧ ov = .slice oa l.length oc ∧ 12 * r + l.length ≤ 24 ∧ Hid (wr.ownsRow w.heap.size 3 1 (.slice oa l.length oc) l.length (intCells l) ∧ CurG w g wr)) (fun _ nv _ _ _ => (intOf nv).toNat)
  case atStart => exact ⟨n0.toNat, [], _, _, by rw [show ((n0.toNat : Nat) : Int) = n0 from by omega], rfl, by simp; omega, Lib.hid ⟨Hown2.out, Hcur2.out⟩⟩
  case round =>
    obtain ⟨r, l, oa, oc, rfl, rfl, hrl, hh⟩ := hrel
    by_cases hr : r = 0
    · subst hr
      have hl24 : l.length ≤ 24 := by omega
      have Ho := Lib.hid hh.out.1; have Hc := Lib.hid hh.out.2
      clear hh hrl
      go_wp2_with fail
      refine (l1Once g 2 wr Hc.out.1 (by omega) (by omega)).mono ?_
      rintro e w3 ⟨⟨once, rfl⟩, hc3, hg3⟩
      have Ho3 := Lib.hid (own_cur Ho.out hg3 hgw); have Hc3 := Lib.hid (Hc.out.drawn hc3 hg3)
      clear hc3 hg3
      cases once with
      | false =>
        have d24 : decide ((24 : Int) < (l.length : Int)) = false := decide_eq_false (by omega)
        have d24n : decide (24 < l.length) = false := decide_eq_false (by omega)
        go_wp2_with fail
        refine (l1Below g 20 w3 Hc3.out.1 (by omega) (by omega)).mono ?_
        rintro e w7 ⟨⟨z, rfl, hz0, hz1⟩, hc7, hg7⟩
        have Ho7 := Lib.hid (own_cur Ho3.out hg7 hgw); have Hc7 := Lib.hid (Hc3.out.drawn hc7 hg7)
        clear hc7 hg7
        by_cases h0 : z = 0
        · have t0 : (z == 0) = true := beq_iff_eq.2 h0
          have hg8 := Hc7.out.1.lt
          go_wp2_with fail
          refine (l1PickInt g w7.heap.size 3 [0, 3, 1] _ (Hc7.out.1.alloc _) (Blk.new _ _ _) (by omega) (by decide) (by decide)).mono ?_
          rintro e w8 ⟨⟨u, hu, rfl⟩, hc8, hg8'⟩
          have hz : ∃ z : Int, u = .int .i64 z ∧ -10 ≤ z ∧ z ≤ 10 := by
            simp only [intCells, List.map_cons, List.map_nil, List.mem_cons, List.mem_nil_iff, or_false] at hu
            rcases hu with rfl | rfl | rfl
            · exact ⟨0, rfl, by omega, by omega⟩
            · exact ⟨3, rfl, by omega, by omega⟩
            · exact ⟨1, rfl, by omega, by omega⟩
          obtain ⟨y, rfl, hy0, hy1⟩ := hz
          have Ho8 := Lib.hid (own_cur (Ho7.out.alloc _) hg8' hgw); have Hc8 := Lib.hid ((Hc7.out.alloc _).drawn hc8 hg8')
          clear hu hc8 hg8'
          go_wp2
          go_ret2
          exact ⟨y, oa, oc, l, rfl, hy0, hy1, own_at Ho8.out, by omega, own_cap Ho8.out, Hc8.out⟩
        · have t0 : (z == 0) = false := beq_eq_false_iff_ne.2 h0
          by_cases h1 : z = 1
          · have t1 : (z == 1) = true := beq_iff_eq.2 h1
            have hg8 := Hc7.out.1.lt
            go_wp2_with fail
            refine (l1PickInt g w7.heap.size 3 [3, 5, 9] _ (Hc7.out.1.alloc _) (Blk.new _ _ _) (by omega) (by decide) (by decide)).mono ?_
            rintro e w8 ⟨⟨u, hu, rfl⟩, hc8, hg8'⟩
            have hz : ∃ z : Int, u = .int .i64 z := by
              simp only [intCells, List.map_cons, List.map_nil, List.mem_cons, List.mem_nil_iff, or_false] at hu
              rcases hu with rfl | rfl | rfl
              · exact ⟨3, rfl⟩
              · exact ⟨5, rfl⟩
              · exact ⟨9, rfl⟩
            obtain ⟨y, rfl⟩ := hz
            have Ho8 := Lib.hid ((own_cur (Ho7.out.alloc _) hg8' hgw).alloc (.cells #[.int .i64 y] 3)); have Hc8 := Lib.hid (((Hc7.out.alloc _).drawn hc8 hg8').alloc (.cells #[.int .i64 y] 3))
            have Hl8 := Lib.hid (show RowAt (w8.alloc (.cells #[.int .i64 y] 3)) (some ⟨w8.heap.size, 0, none⟩) (intCells [y]) from (Blk.new w8 3 #[.int .i64 y]).row)
            obtain ⟨Y, hY⟩ : ∃ Y, l ++ [y] = Y := ⟨_, rfl⟩
            have hYl : Y.length ≤ 29 := by rw [← hY, List.length_append]; simp; omega
            have HY := Lib.hid hY
            clear hu hc8 hg8' hY
            go_wp2_with (at_builtin; refine append_rowN rfl (.tmp 62) (.tmp 66) rfl w.heap.size l [y] _ rfl Ho8.out _ _ rfl Hl8.out Hc8.out.size (by simp; omega) Y HY.out ?_; intro a9 c9 w9 hown9 hg9 hl9)
            have Ho9 := Lib.hid hown9; have Hc9 := Lib.hid (Hc8.out.row hg9 hgw (fun k hk => (Ho8.out.lt k hk).1))
            clear hown9 hg9 hl9
            go_ret2
            exact ⟨K, a9, c9, Y, rfl, by omega, by omega, own_at Ho9.out, by omega, own_cap Ho9.out, Hc9.out⟩
          · have t1 : (z == 1) = false := beq_eq_false_iff_ne.2 h1
            go_wp2
            go_ret2
            exact ⟨K, oa, oc, l, rfl, by omega, by omega, own_at Ho7.out, by omega, own_cap Ho7.out, Hc7.out⟩
      | true =>
        go_wp2_with fail
        refine (l2Draw g 4 (2 * K) 4 w3 Hc3.out.1 (by omega) (by omega) (by omega) rfl).mono ?_
        rintro e w4 ⟨xv, x, rfl, hownx, hx2, hxL, hc4, hg4⟩
        obtain ⟨xa, xc, rfl⟩ := own_len hownx
        have Hx4 := Lib.hid (own_at hownx)
        have Ho4 := Lib.hid (own_cur Ho3.out hg4 hgw); have Hc4 := Lib.hid (Hc3.out.drawn hc4 hg4)
        clear hownx hc4 hg4 hxL
        obtain ⟨m, hm⟩ : ∃ m, l ++ x = m := ⟨_, rfl⟩
        have hml : m.length ≤ 28 := by rw [← hm, List.length_append]; omega
        have Hm := Lib.hid hm
        clear hm
        by_cases h24 : m.length ≤ 24
        · have d24 : decide ((24 : Int) < (m.length : Int)) = false := decide_eq_false (by omega)
          have d24n : decide (24 < m.length) = false := decide_eq_false (by omega)
          go_wp2_with (at_builtin; refine append_rowN rfl (.tmp 42) (.tmp 46) rfl w.heap.size l x _ rfl Ho4.out xa _ rfl Hx4.out Hc4.out.size (by omega) m Hm.out ?_; intro a5 c5 w5 hown5 hg5 hl5; have Ho5 := Lib.hid hown5; have Hc5 := Lib.hid (Hc4.out.row hg5 hgw (fun k hk => (Ho4.out.lt k hk).1)); clear hown5 hg5 hl5)
          go_wp2_with fail
          refine (l1Below g 20 w5 Hc5.out.1 (by omega) (by omega)).mono ?_
          rintro e w7 ⟨⟨z, rfl, hz0, hz1⟩, hc7, hg7⟩
          have Ho7 := Lib.hid (own_cur Ho5.out hg7 hgw); have Hc7 := Lib.hid (Hc5.out.drawn hc7 hg7)
          clear hc7 hg7
          by_cases h0 : z = 0
          · have t0 : (z == 0) = true := beq_iff_eq.2 h0
            have hg8 := Hc7.out.1.lt
            go_wp2_with fail
            refine (l1PickInt g w7.heap.size 3 [0, 3, 1] _ (Hc7.out.1.alloc _) (Blk.new _ _ _) (by omega) (by decide) (by decide)).mono ?_
            rintro e w8 ⟨⟨u, hu, rfl⟩, hc8, hg8'⟩
            have hz : ∃ z : Int, u = .int .i64 z ∧ -10 ≤ z ∧ z ≤ 10 := by
              simp only [intCells, List.map_cons, List.map_nil, List.mem_cons, List.mem_nil_iff, or_false] at hu
              rcases hu with rfl | rfl | rfl
              · exact ⟨0, rfl, by omega, by omega⟩
              · exact ⟨3, rfl, by omega, by omega⟩
              · exact ⟨1, rfl, by omega, by omega⟩
            obtain ⟨y, rfl, hy0, hy1⟩ := hz
            have Ho8 := Lib.hid (own_cur (Ho7.out.alloc _) hg8' hgw); have Hc8 := Lib.hid ((Hc7.out.alloc _).drawn hc8 hg8')
            clear hu hc8 hg8'
            go_wp2
            go_ret2
            exact ⟨y, a5, c5, m, rfl, hy0, hy1, own_at Ho8.out, by omega, own_cap Ho8.out, Hc8.out⟩
          · have t0 : (z == 0) = false := beq_eq_false_iff_ne.2 h0
            by_cases h1 : z = 1
            · have t1 : (z == 1) = true := beq_iff_eq.2 h1
              have hg8 := Hc7.out.1.lt
              go_wp2_with fail
              refine (l1PickInt g w7.heap.size 3 [3, 5, 9] _ (Hc7.out.1.alloc _) (Blk.new _ _ _) (by omega) (by decide) (by decide)).mono ?_
              rintro e w8 ⟨⟨u, hu, rfl⟩, hc8, hg8'⟩
              have hz : ∃ z : Int, u = .int .i64 z := by
                simp only [intCells, List.map_cons, List.map_nil, List.mem_cons, List.mem_nil_iff, or_false] at hu
                rcases hu with rfl | rfl | rfl
                · exact ⟨3, rfl⟩
                · exact ⟨5, rfl⟩
                · exact ⟨9, rfl⟩
              obtain ⟨y, rfl⟩ := hz
              have Ho8 := Lib.hid ((own_cur (Ho7.out.alloc _) hg8' hgw).alloc (.cells #[.int .i64 y] 3)); have Hc8 := Lib.hid (((Hc7.out.alloc _).drawn hc8 hg8').alloc (.cells #[.int .i64 y] 3))
              have Hl8 := Lib.hid (show RowAt (w8.alloc (.cells #[.int .i64 y] 3)) (some ⟨w8.heap.size, 0, none⟩) (intCells [y]) from (Blk.new w8 3 #[.int .i64 y]).row)
              obtain ⟨Y, hY⟩ : ∃ Y, m ++ [y] = Y := ⟨_, rfl⟩
              have hYl : Y.length ≤ 29 := by rw [← hY, List.length_append]; simp; omega
              have HY := Lib.hid hY
              clear hu hc8 hg8' hY
              go_wp2_with (at_builtin; refine append_rowN rfl (.tmp 62) (.tmp 66) rfl w.heap.size m [y] _ rfl Ho8.out _ _ rfl Hl8.out Hc8.out.size (by simp; omega) Y HY.out ?_; intro a9 c9 w9 hown9 hg9 hl9)
              have Ho9 := Lib.hid hown9; have Hc9 := Lib.hid (Hc8.out.row hg9 hgw (fun k hk => (Ho8.out.lt k hk).1))
              clear hown9 hg9 hl9
              go_ret2
              exact ⟨K, a9, c9, Y, rfl, by omega, by omega, own_at Ho9.out, by omega, own_cap Ho9.out, Hc9.out⟩
            · have t1 : (z == 1) = false := beq_eq_false_iff_ne.2 h1
              go_wp2
              go_ret2
              exact ⟨K, a5, c5, m, rfl, by omega, by omega, own_at Ho7.out, by omega, own_cap Ho7.out, Hc7.out⟩
        · have d24 : decide ((24 : Int) < (m.length : Int)) = true := decide_eq_true (by omega)
          have d24n : decide (24 < m.length) = true := decide_eq_true (by omega)
          go_wp2_with (at_builtin; refine append_rowN rfl (.tmp 42) (.tmp 46) rfl w.heap.size l x _ rfl Ho4.out xa _ rfl Hx4.out Hc4.out.size (by omega) m Hm.out ?_; intro a5 c5 w5 hown5 hg5 hl5; have hc5c := own_cap hown5; have hc24 : 24 ≤ c5 := (by omega); have hc24i : (24 : Int) ≤ (c5 : Int) := (by omega); have Ho5 := Lib.hid hown5; have Hc5 := Lib.hid (Hc4.out.row hg5 hgw (fun k hk => (Ho4.out.lt k hk).1)); clear hown5 hg5 hl5)
          obtain ⟨gb, gcap, hgf, hgle, hgm⟩ := own_form Ho5.out (by omega)
          injection hgf with hgf1 hgf2 hgf3
          subst hgf1
          subst hgf3
          obtain ⟨M2, hM2⟩ : ∃ M2, m.take 24 = M2 := ⟨_, rfl⟩
          have hM2l : M2.length = 24 := by rw [← hM2, List.length_take]; omega
          have HoT := Lib.hid (show w5.ownsRow w.heap.size 3 1 (.slice (some ⟨gb, 0, none⟩) M2.length c5) M2.length (intCells M2) from by
            rw [hM2l, ← hM2, ← intCells_take]
            exact own_take Ho5.out (by omega))
          have hc24 : 24 ≤ c5 := by omega
          have hc24i : (24 : Int) ≤ (c5 : Int) := by omega
          have hM2e := Lib.hid hM2l
          have hM2le : M2.length ≤ 24 := by omega
          clear hM2 hgm
          unfold maxLen at *
          have HoT24 := HoT
          rw [hM2l] at HoT24
          clear hM2l
          go_wp2_with fail
          refine (l1Below g 20 w5 Hc5.out.1 (by omega) (by omega)).mono ?_
          rintro e w7 ⟨⟨z, rfl, hz0, hz1⟩, hc7, hg7⟩
          have Ho7 := Lib.hid (own_cur HoT.out hg7 hgw); have Hc7 := Lib.hid (Hc5.out.drawn hc7 hg7)
          clear hc7 hg7
          by_cases h0 : z = 0
          · have t0 : (z == 0) = true := beq_iff_eq.2 h0
            have hg8 := Hc7.out.1.lt
            go_wp2_with fail
            refine (l1PickInt g w7.heap.size 3 [0, 3, 1] _ (Hc7.out.1.alloc _) (Blk.new _ _ _) (by omega) (by decide) (by decide)).mono ?_
            rintro e w8 ⟨⟨u, hu, rfl⟩, hc8, hg8'⟩
            have hz : ∃ z : Int, u = .int .i64 z ∧ -10 ≤ z ∧ z ≤ 10 := by
              simp only [intCells, List.map_cons, List.map_nil, List.mem_cons, List.mem_nil_iff, or_false] at hu
              rcases hu with rfl | rfl | rfl
              · exact ⟨0, rfl, by omega, by omega⟩
              · exact ⟨3, rfl, by omega, by omega⟩
              · exact ⟨1, rfl, by omega, by omega⟩
            obtain ⟨y, rfl, hy0, hy1⟩ := hz
            have Ho8 := Lib.hid (own_cur (Ho7.out.alloc _) hg8' hgw); have Hc8 := Lib.hid ((Hc7.out.alloc _).drawn hc8 hg8')
            clear hu hc8 hg8'
            go_wp2
            go_ret2
            exact ⟨y, (some ⟨gb, 0, none⟩), c5, M2, by rw [hM2e.out]; rfl, hy0, hy1, own_at Ho8.out, by omega, own_cap Ho8.out, Hc8.out⟩
          · have t0 : (z == 0) = false := beq_eq_false_iff_ne.2 h0
            by_cases h1 : z = 1
            · have t1 : (z == 1) = true := beq_iff_eq.2 h1
              have hg8 := Hc7.out.1.lt
              go_wp2_with fail
              refine (l1PickInt g w7.heap.size 3 [3, 5, 9] _ (Hc7.out.1.alloc _) (Blk.new _ _ _) (by omega) (by decide) (by decide)).mono ?_
              rintro e w8 ⟨⟨u, hu, rfl⟩, hc8, hg8'⟩
              have hz : ∃ z : Int, u = .int .i64 z := by
                simp only [intCells, List.map_cons, List.map_nil, List.mem_cons, List.mem_nil_iff, or_false] at hu
                rcases hu with rfl | rfl | rfl
                · exact ⟨3, rfl⟩
                · exact ⟨5, rfl⟩
                · exact ⟨9, rfl⟩
              obtain ⟨y, rfl⟩ := hz
              have Ho8 := Lib.hid ((own_cur (Ho7.out.alloc _) hg8' hgw).alloc (.cells #[.int .i64 y] 3)); have Hc8 := Lib.hid (((Hc7.out.alloc _).drawn hc8 hg8').alloc (.cells #[.int .i64 y] 3))
              have Hl8 := Lib.hid (show RowAt (w8.alloc (.cells #[.int .i64 y] 3)) (some ⟨w8.heap.size, 0, none⟩) (intCells [y]) from (Blk.new w8 3 #[.int .i64 y]).row)
              obtain ⟨Y, hY⟩ : ∃ Y, M2 ++ [y] = Y := ⟨_, rfl⟩
              have hYl : Y.length ≤ 29 := by rw [← hY, List.length_append]; simp; omega
              have HY := Lib.hid hY
              clear hu hc8 hg8' hY
              go_wp2_with (at_builtin; refine append_rowN rfl (.tmp 62) (.tmp 66) rfl w.heap.size M2 [y] _ (show _ = Value.slice (some ⟨gb, 0, none⟩) M2.length c5 from by rw [hM2e.out]; rfl) Ho8.out _ _ rfl Hl8.out Hc8.out.size (by simp; omega) Y HY.out ?_; intro a9 c9 w9 hown9 hg9 hl9)
              have Ho9 := Lib.hid hown9; have Hc9 := Lib.hid (Hc8.out.row hg9 hgw (fun k hk => (Ho8.out.lt k hk).1))
              clear hown9 hg9 hl9
              go_ret2
              exact ⟨K, a9, c9, Y, rfl, by omega, by omega, own_at Ho9.out, by omega, own_cap Ho9.out, Hc9.out⟩
            · have t1 : (z == 1) = false := beq_eq_false_iff_ne.2 h1
              go_wp2
              go_ret2
              exact ⟨K, (some ⟨gb, 0, none⟩), c5, M2, by rw [hM2e.out]; rfl, by omega, by omega, own_at Ho7.out, by omega, own_cap Ho7.out, Hc7.out⟩
    · have hr' : (0 : Int) < (r : Int) := by omega
      go_wp2_with fail
      refine (l2Draw g 2 (2 * K) 2 wr hh.out.2.1 (by omega) (by omega) (by omega) rfl).mono ?_
      rintro e w3 ⟨xv, x, rfl, hownx, hx2, hxL, hc3, hg3⟩
      obtain ⟨xa, xc, rfl⟩ := own_len hownx
      have Hx3 := Lib.hid hownx
      have Hx3lt := Lib.hid (show ∀ k, (Value.slice xa x.length xc).ownBlock = some k → wr.heap.size ≤ k ∧ k < w3.heap.size from fun k hk => hownx.lt k hk)
      have Ho3lt := Lib.hid (show ∀ k, (Value.slice oa l.length oc).ownBlock = some k → w.heap.size ≤ k ∧ k < wr.heap.size from fun k hk => hh.out.1.lt k hk)
      have Ho3 := Lib.hid (own_cur hh.out.1 hg3 hgw)
      have Hcur3 := Lib.hid (hh.out.2.drawn hc3 hg3)
      have Hs3 := Lib.hid hg3.size
      have HxL := Lib.hid hxL
      clear hownx hc3 hg3 hxL
      go_wp2_with fail
      refine (spec_Relator K w3).mono ?_
      rintro e w4 ⟨ra, rc, rfl, hrc, hrcm, hfr, hb4⟩
      have Hr4 := Lib.hid hfr
      have Hx4 := Lib.hid (own_below Hx3.out hb4); have Ho4 := Lib.hid (own_below Ho3.out hb4); have Hcur4 := Lib.hid (Hcur3.out.below hb4)
      have Hs4 := Lib.hid hb4.size
      clear hfr hb4
      go_wp2_with fail
      refine (l1Below g 8 w4 Hcur4.out.1 (by omega) (by omega)).mono ?_
      rintro e w5 ⟨⟨t0, rfl, ht0, ht1⟩, hc5, hg5⟩
      have hgx : g < wr.heap.size := Nat.lt_of_lt_of_le hgw hh.out.2.size
      have Hx5 := Lib.hid (own_cur Hx4.out hg5 hgx)
      have Ho5 := Lib.hid (own_cur Ho4.out hg5 hgw); have Hcur5 := Lib.hid (Hcur4.out.drawn hc5 hg5)
      have Hr5 := Lib.hid (Hr4.out.keeps hg5 (fun k hk => by injection hk with hk; have := Hs3.out; omega))
      have Hs5 := Lib.hid hg5.size
      clear hc5 hg5
      go_wp2_with fail
      refine (spec_l2Turn ra rc (Dn.rel K) t0 w5 Hr5.out.row (by have := Dn.rel_len8 K; omega) hrc (by omega) (by omega)).mono ?_
      rintro e w6 ⟨ta, tc, rfl, htc, htcm, hft, hb6⟩
      have hT8 : (Word.turn (Dn.rel K) t0).length ≤ 8 := by rw [Word.turn_len]; exact Dn.rel_len8 K
      have hTL : ∀ y ∈ Word.turn (Dn.rel K) t0, Word.Letter y := fun y hy => (Dn.rel_w K).1 y (Word.turn_mem hy)
      generalize Word.turn (Dn.rel K) t0 = T at *
      have HTL := Lib.hid hTL
      have Ht6 := Lib.hid hft
      have Hx6 := Lib.hid (own_below Hx5.out hb6); have Ho6 := Lib.hid (own_below Ho5.out hb6); have Hcur6 := Lib.hid (Hcur5.out.below hb6)
      have Hs6 := Lib.hid hb6.size
      clear hft hb6 hTL
      go_wp2_with fail
      refine (l1Once g 2 w6 Hcur6.out.1 (by omega) (by omega)).mono ?_
      rintro e w7 ⟨⟨once, rfl⟩, hc7, hg7⟩
      have Hx7 := Lib.hid (own_cur Hx6.out hg7 hgx)
      have Ho7 := Lib.hid (own_cur Ho6.out hg7 hgw); have Hcur7 := Lib.hid (Hcur6.out.drawn hc7 hg7)
      have Ht7 := Lib.hid (Ht6.out.keeps hg7 (fun k hk => by injection hk with hk; have := Hs3.out; have := Hs4.out; have := Hs5.out; omega))
      have Hs7 := Lib.hid hg7.size
      clear hc7 hg7
      cases once with
      | false =>
        have HoW := Ho7; have HxW := Hx7; have HcW := Hcur7
        have HqW := Lib.hid (Ht7.out.mono (Nat.le_refl _))
        obtain ⟨X1, hX1⟩ : ∃ X1, l ++ x = X1 := ⟨_, rfl⟩
        obtain ⟨X2, hX2⟩ : ∃ X2, X1 ++ T = X2 := ⟨_, rfl⟩
        obtain ⟨X3, hX3⟩ : ∃ X3, X2 ++ Word.inv x = X3 := ⟨_, rfl⟩
        have l1 : X1.length = l.length + x.length := by rw [← hX1, List.length_append]
        have l2 : X2.length = X1.length + T.length := by rw [← hX2, List.length_append]
        have l3 : X3.length = X2.length + x.length := by rw [← hX3, List.length_append, Word.inv_len]
        have m1 : X1.length ≤ 26 := by omega
        have m2 : X2.length ≤ 34 := by omega
        have m3 : 12 * (r - 1) + X3.length ≤ 24 := by omega
        have HX1 := Lib.hid hX1; have HX2 := Lib.hid hX2; have HX3 := Lib.hid hX3
        clear hX1 hX2 hX3 l1 l2 l3
        have HsW := Lib.hid (show w3.heap.size ≤ w7.heap.size from by have := Hs4.out; have := Hs5.out; have := Hs6.out; have := Hs7.out; omega)
        go_wp2_with (first
          | (at_builtin; refine append_rowN rfl (.tmp 32) (.tmp 33) rfl w.heap.size l x _ rfl HoW.out xa _ rfl (own_at HxW.out) HcW.out.size (by omega) X1 HX1.out ?_; intro a1 c1 w9 hown9 hg9 hl9; have Hv9 := Lib.hid (show ∀ k, (Value.slice a1 X1.length c1).ownBlock = some k → (w.heap.size ≤ k ∧ k < wr.heap.size) ∨ k = w7.heap.size from fun k hk => hl9.elim (fun e => Or.inl (Ho3lt.out k (e.symm.trans hk))) (fun e => Or.inr (Option.some.inj (hk.symm.trans e)))); have Hx9 := Lib.hid (own_off HxW.out hg9 (fun k hk e => by have := Hx3lt.out k hk; have := Ho3lt.out k e; omega)); have Hq9 := Lib.hid (HqW.out.keeps hg9 (fun k hk => by have := Ho3lt.out k hk; have := Hs3.out; have := Hs4.out; have := Hs5.out; omega)); have Hc9 := Lib.hid (HcW.out.row hg9 hgw (fun k hk => (Ho3lt.out k hk).1)); have Ho9 := Lib.hid hown9; have Hs9 := Lib.hid hg9.size; clear hown9 hg9 hl9)
          | (at_builtin; refine append_rowN rfl (.tmp 34) (.tmp 35) rfl w.heap.size X1 T _ rfl Ho9.out ta _ rfl Hq9.out.row Hc9.out.size (by omega) X2 HX2.out ?_; intro a2 c2 w10 hown10 hg10 hl10; have Hx10 := Lib.hid (own_off Hx9.out hg10 (fun k hk e => by have := Hx3lt.out k hk; have := Hv9.out k e; have := HsW.out; omega)); have Hc10 := Lib.hid (Hc9.out.row hg10 hgw (fun k hk => by have := Hv9.out k hk; have := HcW.out.size; omega)); have Ho10 := Lib.hid hown10; clear hown10 hg10 hl10))
        go_wp2_with fail
        refine (spec_l2Inverse xa xc x w10 (own_at Hx10.out) (by omega) HxL.out).mono ?_
        rintro e w11 ⟨ia, ic, rfl, hic, hicm, hfi, hb11⟩
        have Hi11 := Lib.hid hfi; have Ho11 := Lib.hid (own_below Ho10.out hb11); have Hc11 := Lib.hid (Hc10.out.below hb11)
        have hil : (Word.inv x).length ≤ 2 := by rw [Word.inv_len]; exact hx2
        clear hfi hb11
        generalize Word.inv x = ix at *
        go_wp2_with (at_builtin; refine append_rowN rfl (.tmp 36) (.tmp 38) rfl w.heap.size X2 ix _ rfl Ho11.out ia _ rfl Hi11.out.row Hc11.out.size (by omega) X3 HX3.out ?_; intro a3 c3 w12 hown12 hg12 hl12)
        have Hc12 := Lib.hid (Hc11.out.row hg12 hgw (fun k hk => (Ho11.out.lt k hk).1)); have Ho12 := Lib.hid hown12
        clear hown12 hg12 hl12
        go_roundw
        case rel => exact ⟨r - 1, X3, a3, c3, by go_num, rfl, m3, Lib.hid ⟨Ho12.out, Hc12.out⟩⟩
        case measure => simp [intOf]; omega
      | true =>
        go_wp2_with fail
        refine (spec_l2Inverse ta tc T w7 Ht7.out.row (by omega) HTL.out).mono ?_
        rintro e w8 ⟨qa, qc, rfl, hqc, hqcm, hfq, hb8⟩
        have HoW := Lib.hid (own_below Ho7.out hb8); have HxW := Lib.hid (own_below Hx7.out hb8); have HcW := Lib.hid (Hcur7.out.below hb8)
        have hs8 := hb8.size
        have HqW := Lib.hid (hfq.mono (show w5.heap.size ≤ w7.heap.size from Nat.le_trans Hs6.out Hs7.out))
        have hiT : (Word.inv T).length ≤ 8 := by rw [Word.inv_len]; exact hT8
        have Hs8 := Lib.hid hs8
        clear hfq hb8 hs8
        generalize Word.inv T = TI at *
        obtain ⟨X1, hX1⟩ : ∃ X1, l ++ x = X1 := ⟨_, rfl⟩
        obtain ⟨X2, hX2⟩ : ∃ X2, X1 ++ TI = X2 := ⟨_, rfl⟩
        obtain ⟨X3, hX3⟩ : ∃ X3, X2 ++ Word.inv x = X3 := ⟨_, rfl⟩
        have l1 : X1.length = l.length + x.length := by rw [← hX1, List.length_append]
        have l2 : X2.length = X1.length + TI.length := by rw [← hX2, List.length_append]
        have l3 : X3.length = X2.length + x.length := by rw [← hX3, List.length_append, Word.inv_len]
        have m1 : X1.length ≤ 26 := by omega
        have m2 : X2.length ≤ 34 := by omega
        have m3 : 12 * (r - 1) + X3.length ≤ 24 := by omega
        have HX1 := Lib.hid hX1; have HX2 := Lib.hid hX2; have HX3 := Lib.hid hX3
        clear hX1 hX2 hX3 l1 l2 l3
        have HsW := Lib.hid (show w3.heap.size ≤ w8.heap.size from by have := Hs4.out; have := Hs5.out; have := Hs6.out; have := Hs7.out; have := Hs8.out; omega)
        go_wp2_with (first
          | (at_builtin; refine append_rowN rfl (.tmp 32) (.tmp 33) rfl w.heap.size l x _ rfl HoW.out xa _ rfl (own_at HxW.out) HcW.out.size (by omega) X1 HX1.out ?_; intro a1 c1 w9 hown9 hg9 hl9; have Hv9 := Lib.hid (show ∀ k, (Value.slice a1 X1.length c1).ownBlock = some k → (w.heap.size ≤ k ∧ k < wr.heap.size) ∨ k = w8.heap.size from fun k hk => hl9.elim (fun e => Or.inl (Ho3lt.out k (e.symm.trans hk))) (fun e => Or.inr (Option.some.inj (hk.symm.trans e)))); have Hx9 := Lib.hid (own_off HxW.out hg9 (fun k hk e => by have := Hx3lt.out k hk; have := Ho3lt.out k e; omega)); have Hq9 := Lib.hid (HqW.out.keeps hg9 (fun k hk => by have := Ho3lt.out k hk; have := Hs3.out; have := Hs4.out; have := Hs5.out; omega)); have Hc9 := Lib.hid (HcW.out.row hg9 hgw (fun k hk => (Ho3lt.out k hk).1)); have Ho9 := Lib.hid hown9; have Hs9 := Lib.hid hg9.size; clear hown9 hg9 hl9)
          | (at_builtin; refine append_rowN rfl (.tmp 34) (.tmp 35) rfl w.heap.size X1 TI _ rfl Ho9.out qa _ rfl Hq9.out.row Hc9.out.size (by omega) X2 HX2.out ?_; intro a2 c2 w10 hown10 hg10 hl10; have Hx10 := Lib.hid (own_off Hx9.out hg10 (fun k hk e => by have := Hx3lt.out k hk; have := Hv9.out k e; have := HsW.out; omega)); have Hc10 := Lib.hid (Hc9.out.row hg10 hgw (fun k hk => by have := Hv9.out k hk; have := HcW.out.size; omega)); have Ho10 := Lib.hid hown10; clear hown10 hg10 hl10))
        go_wp2_with fail
        refine (spec_l2Inverse xa xc x w10 (own_at Hx10.out) (by omega) HxL.out).mono ?_
        rintro e w11 ⟨ia, ic, rfl, hic, hicm, hfi, hb11⟩
        have Hi11 := Lib.hid hfi; have Ho11 := Lib.hid (own_below Ho10.out hb11); have Hc11 := Lib.hid (Hc10.out.below hb11)
        have hil : (Word.inv x).length ≤ 2 := by rw [Word.inv_len]; exact hx2
        clear hfi hb11
        generalize Word.inv x = ix at *
        go_wp2_with (at_builtin; refine append_rowN rfl (.tmp 36) (.tmp 38) rfl w.heap.size X2 ix _ rfl Ho11.out ia _ rfl Hi11.out.row Hc11.out.size (by omega) X3 HX3.out ?_; intro a3 c3 w12 hown12 hg12 hl12)
        have Hc12 := Lib.hid (Hc11.out.row hg12 hgw (fun k hk => (Ho11.out.lt k hk).1)); have Ho12 := Lib.hid hown12
        clear hown12 hg12 hl12
        go_roundw
        case rel => exact ⟨r - 1, X3, a3, c3, by go_num, rfl, m3, Lib.hid ⟨Ho12.out, Hc12.out⟩⟩
        case measure => simp [intOf]; omega
end Go.Proofs.Ytfaagbmaekoogaa
