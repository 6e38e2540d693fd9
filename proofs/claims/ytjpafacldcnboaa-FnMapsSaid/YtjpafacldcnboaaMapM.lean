/-
  The walk of the model's SubdivideEdge.
-/
import Derived.Test.YtjpafacldcnboaaBase
import Derived.Test.YtjpafacldcnboaaSlice
import Derived.Test.YtjpafacldcnboaaInts
import Derived.Test.YtjpafacldcnboaaGrid
import Derived.Test.YtjpafacldcnboaaOwn
import Derived.Test.YtjpafacldcnboaaAppend
import Derived.Test.YtjpafacldcnboaaWord
import Derived.Test.YtjpafacldcnboaaIsWord
import Derived.Test.YtjpafacldcnboaaClass
import Derived.Test.YtjpafacldcnboaaLab
import Derived.Test.YtjpafacldcnboaaTopo
import Derived.Test.YtjpafacldcnboaaMap
import Derived.Test.YtjpafacldcnboaaMapTopo
import Derived.Test.YtjpafacldcnboaaMapTopo2
import Derived.Test.YtjpafacldcnboaaMapA
import Derived.Test.YtjpafacldcnboaaMapB
import Derived.Test.YtjpafacldcnboaaMapC
import Derived.Test.YtjpafacldcnboaaMapG
import Derived.Test.YtjpafacldcnboaaMapH
import Derived.Deep.QuietTactic
import Derived.BigQuiet
namespace Go.Proofs.Ytjpafacldcnboaa
open Go.RowKit

namespace Mp
/-- The darts below i that led to d lead to n + 1. -/
def turned (l : List Int) (d i : Nat) : Nat → Nat := fun k => if k < i ∧ at_ l k = d then l.length + 1 else plus (at_ l) l.length d 0 k
theorem turned_yes {l : List Int} {d i : Nat} (h : at_ l i = d) (k : Nat) : upd (turned l d i) i (l.length + 1) k = turned l d (i + 1) k := by
  unfold upd turned
  by_cases e : k = i
  · subst e; rw [if_pos rfl, if_pos ⟨by omega, h⟩]
  · rw [if_neg e]
    by_cases e2 : k < i ∧ at_ l k = d
    · rw [if_pos e2, if_pos ⟨by omega, e2.2⟩]
    · rw [if_neg e2, if_neg (fun hh => e2 ⟨by omega, hh.2⟩)]
theorem turned_no {l : List Int} {d i : Nat} (h : at_ l i ≠ d) (k : Nat) : turned l d i k = turned l d (i + 1) k := by
  unfold turned
  by_cases e2 : k < i ∧ at_ l k = d
  · rw [if_pos e2, if_pos ⟨by omega, e2.2⟩]
  · rw [if_neg e2, if_neg]
    rintro ⟨h1, h2⟩
    by_cases e : k = i
    · subst e; exact h h2
    · exact e2 ⟨by omega, h2⟩
theorem turned_end {l : List Int} {d : Nat} (hd : d < l.length) (y : Nat) (hy : y = if at_ l d = d then l.length + 1 else at_ l d) : ∀ k, k < l.length + 2 → upd (upd (turned l d l.length) (l.length + 1) y) d l.length k = subF l d k := by
  intro k hk
  unfold upd subF turned plus
  by_cases k1 : k = d
  · rw [if_pos k1, if_pos k1]
  · rw [if_neg k1, if_neg k1]
    by_cases k2 : k = l.length
    · rw [if_neg (by omega), if_neg (by omega), if_neg (by omega), if_pos k2, if_pos k2]
    · by_cases k3 : k = l.length + 1
      · rw [if_pos k3, hy, if_neg k2, if_pos k3]
      · have : k < l.length := by omega
        rw [if_neg k3, if_pos this, if_neg k2, if_neg k3]
        by_cases c : at_ l k = d
        · rw [if_pos ⟨this, c⟩, if_pos c]
        · rw [if_neg (fun h => c h.2), if_neg c]
end Mp
/-- The last stores. -/
theorem stores2 {w w0 : World} {lo g cap m n d y : Nat} {f : Nat → Nat} (h : w.ownsRow lo 3 1 (.slice (some ⟨g, 0, none⟩) m cap) m (intCells (Cls.row f m))) (hb0 : Below lo w0 w) (hn : n + 1 < m) (hd : d < m) :
    ∃ z1 z2 : Nat, w.cell? ⟨g, n + 1, none⟩ = some (.int .i64 (z1 : Int)) ∧ w.frozen? ⟨g, n + 1, none⟩ = false ∧ (w.setCell ⟨g, n + 1, none⟩ (.int .i64 (y : Int))).cell? ⟨g, d, none⟩ = some (.int .i64 (z2 : Int)) ∧ (w.setCell ⟨g, n + 1, none⟩ (.int .i64 (y : Int))).frozen? ⟨g, d, none⟩ = false ∧
      ((w.setCell ⟨g, n + 1, none⟩ (.int .i64 (y : Int))).setCell ⟨g, d, none⟩ (.int .i64 (n : Int))).ownsRow lo 3 1 (.slice (some ⟨g, 0, none⟩) m cap) m (intCells (Cls.row (Mp.upd (Mp.upd f (n + 1) y) d n) m)) ∧
      Below lo w0 ((w.setCell ⟨g, n + 1, none⟩ (.int .i64 (y : Int))).setCell ⟨g, d, none⟩ (.int .i64 (n : Int))) := by
  have hg := (h.lt g rfl).1
  have h1 := ownRow_put h y hn
  have h2 := ownRow_put h1 n hd
  exact ⟨_, _, ownRow_cell h hn, h.frozenAt _, ownRow_cell h1 hd, h1.frozenAt _, h2, (hb0.setCell hg _).setCell hg _⟩
theorem stores3 {w w0 : World} {lo g cap m n d y : Nat} {f : Nat → Nat} (h : w.ownsRow lo 3 1 (.slice (some ⟨g, 0, none⟩) m cap) m (intCells (Cls.row f m))) (hb0 : Below lo w0 w) (hn : n + 1 < m) (hd : d < m) :
    ∃ z1 z2 z3 : Nat, w.cell? ⟨g, n + 1, none⟩ = some (.int .i64 (z1 : Int)) ∧ w.frozen? ⟨g, n + 1, none⟩ = false ∧
      (w.setCell ⟨g, n + 1, none⟩ (.int .i64 (y : Int))).cell? ⟨g, n + 1, none⟩ = some (.int .i64 (z3 : Int)) ∧ (w.setCell ⟨g, n + 1, none⟩ (.int .i64 (y : Int))).frozen? ⟨g, n + 1, none⟩ = false ∧
      ((w.setCell ⟨g, n + 1, none⟩ (.int .i64 (y : Int))).setCell ⟨g, n + 1, none⟩ (.int .i64 ((n : Int) + 1))).cell? ⟨g, d, none⟩ = some (.int .i64 (z2 : Int)) ∧ ((w.setCell ⟨g, n + 1, none⟩ (.int .i64 (y : Int))).setCell ⟨g, n + 1, none⟩ (.int .i64 ((n : Int) + 1))).frozen? ⟨g, d, none⟩ = false ∧
      (((w.setCell ⟨g, n + 1, none⟩ (.int .i64 (y : Int))).setCell ⟨g, n + 1, none⟩ (.int .i64 ((n : Int) + 1))).setCell ⟨g, d, none⟩ (.int .i64 (n : Int))).ownsRow lo 3 1 (.slice (some ⟨g, 0, none⟩) m cap) m (intCells (Cls.row (Mp.upd (Mp.upd f (n + 1) (n + 1)) d n) m)) ∧
      Below lo w0 (((w.setCell ⟨g, n + 1, none⟩ (.int .i64 (y : Int))).setCell ⟨g, n + 1, none⟩ (.int .i64 ((n : Int) + 1))).setCell ⟨g, d, none⟩ (.int .i64 (n : Int))) := by
  have hg := (h.lt g rfl).1
  have h1 := ownRow_put h y hn
  have h2 := ownRow_put h1 (n + 1) hn
  have h3 := ownRow_put h2 n hd
  refine ⟨_, _, _, ownRow_cell h hn, h.frozenAt _, ownRow_cell h1 hn, h1.frozenAt _, ownRow_cell h2 hd, h2.frozenAt _, ?_, ((hb0.setCell hg _).setCell hg _).setCell hg _⟩
  have e : Cls.row (Mp.upd (Mp.upd (Mp.upd f (n + 1) y) (n + 1) (n + 1)) d n) m = Cls.row (Mp.upd (Mp.upd f (n + 1) (n + 1)) d n) m := row_congr fun k _ => by
    unfold Mp.upd; split
    · rfl
    · split <;> rfl
  rw [← e]; exact h3
set_option maxRecDepth 10000 in
set_option maxHeartbeats 4000000 in
theorem spec_SubdivideEdge (a : Option Addr) (c : Nat) (l : List Int) (ve : Int) (w : World) (ha : RowAt w a (intCells l)) (hl : l.length ≤ 1048576) (_ : -9223372036854775808 ≤ ve) (_ : ve ≤ 9223372036854775807) :
    Calls Try.prog 40 #[.slice a l.length c, .int .i64 ve] w fun e w' => Gives2 w (Mp.sub l ve) (decide (Mp.SubOk l ve)) e w' := by
  have hc := spec_IsMap a c l w ha hl
  by_cases hM : Mp.IsM l
  · rw [decide_eq_true hM] at hc
    have hn := hM.2.1
    have hn2 := hM.1
    have hev := hM.2.2.1
    have ht : Int.tdiv (l.length : Int) 2 = ((l.length / 2 : Nat) : Int) := rfl
    have hw0 : IntKind.i64.wrap ((l.length / 2 : Nat) : Int) = ((l.length / 2 : Nat) : Int) := wrap_small (by omega) (by omega)
    have hw1 : IntKind.i64.wrap (((l.length / 2 : Nat) : Int) - 1) = ((l.length / 2 : Nat) : Int) - 1 := wrap_small (by omega) (by omega)
    have hw3 : IntKind.i64.wrap ((l.length : Int) + 2) = (l.length : Int) + 2 := wrap_small (by omega) (by omega)
    have hA := fun W => spec_l1In ve 0 (((l.length / 2 : Nat) : Int) - 1) W
    have hmm : ((l.length / 2 : Nat) : Int) = (l.length : Int) / 2 := by omega
    by_cases h1 : 0 ≤ ve ∧ ve < ((l.length / 2 : Nat) : Int)
    · rw [decide_eq_true (show 0 ≤ ve ∧ ve ≤ ((l.length / 2 : Nat) : Int) - 1 by omega)] at hA
      by_cases h2 : Mp.Room l
      · have h3' : ¬ (24 : Int) < (l.length : Int) + 2 := by unfold Mp.Room at h2; omega
        have hok : Mp.SubOk l ve := ⟨⟨hM, h1⟩, h2⟩
        rw [decide_eq_true hok]
        have hv : Mp.sub l ve = Cls.row (Mp.subF l (2 * ve.toNat + 1)) (l.length + 2) := if_pos hok
        rw [hv]
        obtain ⟨x, rfl⟩ : ∃ x : Nat, ve = ((x : Nat) : Int) := ⟨ve.toNat, by have := h1.1; omega⟩
        simp only [Int.toNat_natCast]
        have hx : 2 * x + 1 < l.length := by have := h1.2; omega
        have hP := hM.2.2.2
        have hw4 : IntKind.i64.wrap (2 * (x : Int)) = 2 * (x : Int) := wrap_small (by omega) (by omega)
        have hw5 : IntKind.i64.wrap (2 * (x : Int) + 1) = ((2 * x + 1 : Nat) : Int) := by rw [show ((2 * x + 1 : Nat) : Int) = 2 * (x : Int) + 1 from by omega]; exact wrap_small (by omega) (by omega)
        have hw6 : IntKind.i64.wrap ((l.length : Int) + 1) = (l.length : Int) + 1 := wrap_small (by omega) (by omega)
        have ht1 : ((l.length : Int) + 1).toNat = l.length + 1 := by omega
        generalize hd : 2 * x + 1 = d at *
        have hend := fun y hy => Mp.turned_end hx y hy
        have hread : ∀ d, d < l.length → ∃ b o, a = some ⟨b, o, none⟩ ∧ ∀ W, Below w.heap.size w W → W.cell? ⟨b, o + d, none⟩ = some (.int .i64 ((Mp.at_ l d : Nat) : Int)) := fun d hd => by
          obtain ⟨b, o, e, hb, hc⟩ := intCells_get? ha (Mp.at_get hP hd)
          exact ⟨b, o, e, fun W hW => by rw [hW.cell (p := ⟨b, o + d, none⟩) hb]; exact hc⟩
        obtain ⟨i0, hi0, hz0, hz1, hz2⟩ := info_int_parts
        have hrow0 : l = Cls.row (Mp.at_ l) l.length := (Mp.at_row hM.2.2.2).symm
        have hm1 : 0 + l.length ≤ maxLen := by unfold maxLen; omega
        have hm2 : (0 + l.length) * 8 ≤ 140737488355328 := by omega
        have hm3 : l.length + 2 ≤ maxLen := by unfold maxLen; omega
        have hm4 : (l.length + 2) * 8 ≤ 140737488355328 := by omega
        have Hi0 := Lib.hid hi0; have Hz0 := Lib.hid hz0; have Hz1 := Lib.hid hz1; have Hz2 := Lib.hid hz2
        have Hc := Lib.hid hc; have HA := Lib.hid hA; have Hread := Lib.hid hread; have Hrow0 := Lib.hid hrow0; have Hend := Lib.hid hend; have Ha := Lib.hid ha
        clear hc hA ha hok hM hP hread hi0 hz0 hz1 hz2 h1 hev hd hend hrow0 h2 hv
        go_enter Try.func40, Try.ntmps40
        go_wp2_with fail
        refine Hc.out.mono ?_
        rintro e w0 ⟨rfl, hb⟩
        have Hb := Lib.hid hb; clear hb
        go_wp2_with fail
        refine (HA.out _).mono ?_
        rintro e w2 ⟨rfl, hw⟩
        rw [hw]; clear hw
        have hbs0 := Hb.out.size
        have Hown0 : Hid ((w0.alloc (.cells #[] 3)).ownsRow w0.heap.size 3 1 (.slice (some ⟨w0.heap.size, 0, none⟩) 0 0) 0 (intCells [])) := Lib.hid (own_made rfl)
        have Hr0 := Lib.hid ((Ha.out.below Hb.out).below ((Below.refl _ _).alloc (Nat.le_refl _) (.cells #[] 3)))
        have hbs : w0.heap.size ≤ (w0.alloc (.cells #[] 3)).heap.size := by simp
        go_wp2_with (at_builtin; first | (refine append_row rfl (.tmp 34) (.tmp 35) 22 rfl w0.heap.size 3 i0 _ 8 Try.underlying22 Hi0.out Hz0.out Hz1.out Hz2.out (by rfl) _ _ _ rfl Hown0.out _ _ _ _ rfl Hr0.out (by rw [intCells_len]) (intCells_one l) hm1 hm2 hbs ?_; intro v1 w1 hown1 hg1; obtain ⟨hown2, hb1, hs1⟩ := copied Hrow0.out hown1 hg1; have Hb1 := Lib.hid hb1; clear hb1) | (refine append_two rfl (.tmp 36) (.tmp 38) 22 rfl w0.heap.size 3 i0 _ 8 Try.underlying22 Hi0.out Hz0.out Hz1.out Hz2.out (by rfl) _ _ _ rfl hown2 (by rfl) (by rfl) _ rfl hm3 hm4 hs1 ?_; intro v2 w2 hown3 hg2; obtain ⟨g, cap, rfl, hown4, hb2⟩ := copied2 (x := d) (y := 0) rfl rfl hown2 Hb1.out hown3 hg2; have Hown4 := Lib.hid hown4; have Hb2 := Lib.hid hb2; clear hown4 hown3 hown2 hown1 hg1 hg2 hb2))
        have Hst : Hid (w2.ownsRow w0.heap.size 3 1 (.slice (some ⟨g, 0, none⟩) (l.length + 2) cap) (l.length + 2) (intCells (Cls.row (Mp.turned l d 0) (l.length + 2)))) := Lib.hid (by rw [row_congr (f := Mp.turned l d 0) (f' := Mp.plus (Mp.at_ l) l.length d 0) fun k _ => by simp [Mp.turned]]; exact Hown4.out)
        have hg0 := (Hown4.out.lt g rfl).1
        clear Hown4 Hown0 Hr0 hbs
        go_loopw [9] (fun iv wr => ∃ i : Nat, i ≤ l.length ∧ iv = .int .i64 i ∧ Hid (Below w0.heap.size w0 wr) ∧ Hid (wr.ownsRow w0.heap.size 3 1 (.slice (some ⟨g, 0, none⟩) (l.length + 2) cap) (l.length + 2) (intCells (Cls.row (Mp.turned l d i) (l.length + 2))))) (fun iv _ => l.length - (intOf iv).toNat)
        case atStart => exact ⟨0, by omega, rfl, Hb2, Hst⟩
        case round =>
          clear Hb2 Hst
          obtain ⟨i, hi, rfl, hb, hk⟩ := hrel
          have hbw := Hb.out.trans (hb.out.mono Hb.out.size)
          have Hbw := Lib.hid hbw; clear hbw
          by_cases hlt : i < l.length
          · obtain ⟨b, o, rfl, hrd⟩ := Hread.out i hlt
            have hci := hrd wr Hbw.out
            by_cases hid : Mp.at_ l i = d
            · have hq : (((Mp.at_ l i : Nat) : Int) == (d : Int)) = true := by rw [hid]; simp
              have hcv := ownRow_cell hk.out (show i < l.length + 2 by omega)
              have hfz := hk.out.frozenAt i
              have hput := ownRow_put hk.out (l.length + 1) (show i < l.length + 2 by omega)
              rw [row_congr fun k _ => Mp.turned_yes hid k, show (((l.length + 1 : Nat)) : Int) = (l.length : Int) + 1 from by omega] at hput
              have Hput := Lib.hid hput
              have Hb3 := Lib.hid (hb.out.setCell (p := ⟨g, i, none⟩) hg0 (.int .i64 ((l.length : Int) + 1)))
              generalize Mp.at_ l i = y at *
              generalize Mp.turned l d i i = z at hcv
              have h1i : (i : Int) < (l.length : Int) + 2 := by omega
              clear hput hid hrd
              go_wp2
              go_roundw
              case rel => exact ⟨i + 1, by omega, by go_num, Hb3, Hput⟩
              case measure => simp [intOf]; omega
            · have hq : (((Mp.at_ l i : Nat) : Int) == (d : Int)) = false := beq_eq_false_iff_ne.2 (by omega)
              have Hk2 : Hid (wr.ownsRow w0.heap.size 3 1 (.slice (some ⟨g, 0, none⟩) (l.length + 2) cap) (l.length + 2) (intCells (Cls.row (Mp.turned l d (i + 1)) (l.length + 2)))) := Lib.hid (by rw [row_congr (f := Mp.turned l d (i + 1)) (f' := Mp.turned l d i) fun k _ => (Mp.turned_no hid k).symm]; exact hk.out)
              have hne : ¬ Mp.at_ l i = d := hid
              generalize Mp.at_ l i = y at *
              clear hid hrd
              go_wp2
              go_roundw
              case rel => exact ⟨i + 1, by omega, by go_num, hb, Hk2⟩
              case measure => simp [intOf]; omega
          · obtain rfl : i = l.length := by omega
            obtain ⟨b, o, rfl, hrd⟩ := Hread.out d hx
            have hcd := hrd wr Hbw.out
            have hcd1 := fun W (hW : Below w0.heap.size wr W) => hrd W (Hbw.out.trans (hW.mono Hb.out.size))
            have hdl : (d : Int) < (l.length : Int) := by omega
            have hd2 : (d : Int) < (l.length : Int) + 2 := by omega
            have hn1 : (l.length : Int) + 1 < (l.length : Int) + 2 := by omega
            have hn0 : (0 : Int) ≤ (l.length : Int) + 1 := by omega
            by_cases hfix : Mp.at_ l d = d
            · obtain ⟨z1, z2, z3, q1, q2, q3, q4, q5, q6, hown5, hb5⟩ := stores3 (y := Mp.at_ l d) hk.out hb.out (show l.length + 1 < l.length + 2 by omega) (show d < l.length + 2 by omega)
              rw [row_congr (Hend.out (l.length + 1) (by rw [if_pos hfix]))] at hown5
              have hcd2 := hcd1 (wr.setCell ⟨g, l.length + 1, none⟩ (.int .i64 ((Mp.at_ l d : Nat) : Int))) ((Below.refl _ _).setCell hg0 _)
              have Hown5 := Lib.hid hown5; have Hb5 := Lib.hid (Hb.out.trans (hb5.mono Hb.out.size))
              have hq : (((Mp.at_ l d : Nat) : Int) == (d : Int)) = true := by rw [hfix]; simp
              clear hown5 hb5 hrd hcd1 hk hb
              have Hfix := Lib.hid hfix; clear hfix
              generalize Mp.at_ l d = y at *
              go_wp2
              go_ret2
              exact (own_gives (own_mono Hown5.out Hb.out.size) (Cls.row_len _ _) Hb5.out).with
            · obtain ⟨z1, z2, q1, q2, q5, q6, hown5, hb5⟩ := stores2 (y := Mp.at_ l d) hk.out hb.out (show l.length + 1 < l.length + 2 by omega) (show d < l.length + 2 by omega)
              rw [row_congr (Hend.out (Mp.at_ l d) (by rw [if_neg hfix]))] at hown5
              have hcd2 := hcd1 (wr.setCell ⟨g, l.length + 1, none⟩ (.int .i64 ((Mp.at_ l d : Nat) : Int))) ((Below.refl _ _).setCell hg0 _)
              have Hown5 := Lib.hid hown5; have Hb5 := Lib.hid (Hb.out.trans (hb5.mono Hb.out.size))
              have hq : (((Mp.at_ l d : Nat) : Int) == (d : Int)) = false := beq_eq_false_iff_ne.2 (by omega)
              have hne : ¬ Mp.at_ l d = d := hfix
              clear hown5 hb5 hrd hcd1 hk hb hfix
              generalize Mp.at_ l d = y at *
              go_wp2
              go_ret2
              exact (own_gives (own_mono Hown5.out Hb.out.size) (Cls.row_len _ _) Hb5.out).with
      · have h3' : (24 : Int) < (l.length : Int) + 2 := by unfold Mp.Room at h2; omega
        have hok : ¬ Mp.SubOk l ve := fun h => h2 h.2
        rw [decide_eq_false hok, show Mp.sub l ve = [] from if_neg hok]
        have Hc := Lib.hid hc; have HA := Lib.hid hA
        clear hc hA ha hok hM h1 h2
        go_enter Try.func40, Try.ntmps40
        go_wp2_with fail
        refine Hc.out.mono ?_
        rintro e w0 ⟨rfl, hb⟩
        have Hb := Lib.hid hb; clear hb
        go_wp2_with fail
        refine (HA.out _).mono ?_
        rintro e w2 ⟨rfl, hw⟩
        rw [hw]; clear hw
        go_wp2
        go_ret2
        exact ⟨_, _, rfl, Nat.le_refl _, Nat.zero_le _, Or.inl rfl, Hb.out.alloc Hb.out.size _⟩
    · rw [decide_eq_false (show ¬ (0 ≤ ve ∧ ve ≤ ((l.length / 2 : Nat) : Int) - 1) by omega)] at hA
      have hok : ¬ Mp.SubOk l ve := fun h => h1 h.1.2
      rw [decide_eq_false hok, show Mp.sub l ve = [] from if_neg hok]
      have Hc := Lib.hid hc; have HA := Lib.hid hA
      clear hc hA ha hok hM h1
      go_enter Try.func40, Try.ntmps40
      go_wp2_with fail
      refine Hc.out.mono ?_
      rintro e w0 ⟨rfl, hb⟩
      have Hb := Lib.hid hb; clear hb
      go_wp2_with fail
      refine (HA.out _).mono ?_
      rintro e w2 ⟨rfl, hw⟩
      rw [hw]; clear hw
      go_wp2
      go_ret2
      exact ⟨_, _, rfl, Nat.le_refl _, Nat.zero_le _, Or.inl rfl, Hb.out.alloc Hb.out.size _⟩
  · rw [decide_eq_false hM] at hc
    have hok : ¬ Mp.SubOk l ve := fun h => hM h.1.1
    rw [decide_eq_false hok, show Mp.sub l ve = [] from if_neg hok]
    have Hc := Lib.hid hc
    clear hc hM ha hok
    go_enter Try.func40, Try.ntmps40
    go_wp2_with fail
    refine Hc.out.mono ?_
    rintro e w0 ⟨rfl, hb⟩
    have Hb := Lib.hid hb; clear hb
    go_wp2
    go_ret2
    exact ⟨_, _, rfl, Nat.le_refl _, Nat.zero_le _, Or.inl rfl, Hb.out.alloc Hb.out.size _⟩
end Go.Proofs.Ytjpafacldcnboaa
