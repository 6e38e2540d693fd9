/-
  Maps behind a pointer: what such a pointer leads to; the walks of Clone, mapOf, and of the questions that a map answers. The walks of DualMap and MirrorMap, the program's and the model's. The walks of the cycles of a map, the program's and the model's. The walks of the parts of a map and of its genus, the program's and the model's. The walks of the genus of a map, the program's and the model's.
-/
import Derived.Test.YtpebgompfgkljaaGreatBase
import Derived.Test.YtpebgompfgkljaaGreatSlice
import Derived.Test.YtpebgompfgkljaaGreatInts
import Derived.Test.YtpebgompfgkljaaGreatGrid
import Derived.Test.YtpebgompfgkljaaGreatOwn
import Derived.Test.YtpebgompfgkljaaGreatAppend
import Derived.Test.YtpebgompfgkljaaGreatGridRows
import Derived.Test.YtpebgompfgkljaaGreatClass
import Derived.Test.YtpebgompfgkljaaGreatLab
import Derived.Test.YtpebgompfgkljaaGreatMap
import Derived.Test.YtpebgompfgkljaaGreatMapA
import Derived.Deep.QuietTactic
import Derived.BigQuiet
import Derived.StillTailTactics
import Derived.Test.YtpebgompfgkljaaGreatGridWalk
namespace Go.Proofs.YtpebgompfgkljaaGreat
open Go.RowKit

theorem ownRow_cell {w : World} {lo g cap n : Nat} {f : Nat → Nat} (h : w.ownsRow lo 3 1 (.slice (some ⟨g, 0, none⟩) n cap) n (intCells (Cls.row f n))) {k : Nat} (hk : k < n) : w.cell? ⟨g, k, none⟩ = some (.int .i64 ((f k : Nat) : Int)) := by
  have := own_cell h hk (Cls.row_len f n)
  rw [this]
  have e := Cls.row_get (c := f) hk
  rw [List.getElem?_eq_getElem (by rw [Cls.row_len]; exact hk)] at e
  rw [Option.some.inj e]
theorem ownRow_put {w : World} {lo g cap n : Nat} {f : Nat → Nat} (h : w.ownsRow lo 3 1 (.slice (some ⟨g, 0, none⟩) n cap) n (intCells (Cls.row f n))) {k : Nat} (b : Nat) (hk : k < n) :
    (w.setCell ⟨g, k, none⟩ (.int .i64 ((b : Nat) : Int))).ownsRow lo 3 1 (.slice (some ⟨g, 0, none⟩) n cap) n (intCells (Cls.row (Mp.upd f k b) n)) := by
  have := (h.stored k (.int .i64 ((b : Nat) : Int))).1
  rw [show (intCells (Cls.row f n)).set k (.int .i64 ((b : Nat) : Int)) = intCells ((Cls.row f n).set k ((b : Nat) : Int)) from by simp [intCells, List.map_set], Cls.row_link hk] at this
  exact this
theorem row_congr {f f' : Nat → Nat} {n : Nat} (h : ∀ k, k < n → f k = f' k) : Cls.row f n = Cls.row f' n := by
  unfold Cls.row
  exact List.map_congr_left fun k hk => by rw [h k (List.mem_range.1 hk)]
theorem MapAt.row {w : World} {lo g cap n : Nat} {f : Nat → Nat} (h : w.ownsRow lo 3 1 (.slice (some ⟨g, 0, none⟩) n cap) n (intCells (Cls.row f n))) : RowAt w (some ⟨g, 0, none⟩) (intCells (Cls.row f n)) := by
  obtain ⟨a, c, e, hr⟩ := own_row h (by rw [intCells_len, Cls.row_len])
  cases e; exact hr
theorem own_grown {w w' : World} {base n g : Nat} {e : TypeId} {v : Value} {xs : List Value} (h : w.ownsRow base e 1 v n xs) (hg : w.grownBy w' (some g)) (hne : ∀ k, v.ownBlock = some k → k ≠ g) : w'.ownsRow base e 1 v n xs := by
  obtain ⟨hx, h0 | ⟨b, cap, cur, rfl, hb, hh, h2⟩⟩ := h
  · exact ⟨hx, Or.inl h0⟩
  · refine ⟨hx, Or.inr ⟨b, cap, cur, rfl, hb, ?_, h2⟩⟩
    have hlt : b < w.heap.size := by
      rcases Nat.lt_or_ge b w.heap.size with hl | hl
      · exact hl
      · rw [Array.getElem?_eq_none hl] at hh; cases hh
    rw [hg.block b hlt (fun e => hne b rfl (Option.some.inj e)), hh]

set_option maxRecDepth 10000 in
set_option maxHeartbeats 1000000 in
theorem lib_Clone (a : Option Addr) (c : Nat) (l : List Int) (w : World) (ha : RowAt w a (intCells l)) (h0 : 0 < l.length) (hl : l.length ≤ 1000) :
    Calls Tryz.prog 132 #[.slice a l.length c] w fun e w' => (∃ g cap, e = .returned (.slice (some ⟨g, 0, none⟩) l.length cap) ∧ w'.ownsRow w.heap.size 3 1 (.slice (some ⟨g, 0, none⟩) l.length cap) l.length (intCells l) ∧ l.length ≤ cap ∧ cap ≤ maxLen) ∧ Below w.heap.size w w' := by
  obtain ⟨i0, hi0, hz0, hz1, hz2⟩ := info_int_parts
  obtain ⟨b, o, rfl, hbw, _⟩ := ha.at (i := 0) (by rw [intCells_len]; exact h0)
  have Hi0 := Lib.hid hi0; have Hz0 := Lib.hid hz0; have Hz1 := Lib.hid hz1; have Hz2 := Lib.hid hz2
  have hown : (w.alloc (.cells #[] 3)).ownsRow w.heap.size 3 1 (.slice (some ⟨w.heap.size, 0, none⟩) 0 0) 0 (intCells []) := own_made rfl
  have hb0 := (Below.refl w.heap.size w).alloc (Nat.le_refl _) (.cells #[] 3)
  have hr := ha.below hb0
  have h63 : 0 + l.length ≤ maxLen := by unfold maxLen; omega
  have hby : (0 + l.length) * 8 ≤ 140737488355328 := by omega
  have hbs : w.heap.size ≤ (w.alloc (.cells #[] 3)).heap.size := by simp
  have Hown := Lib.hid hown; have Hb0 := Lib.hid hb0; have Hr := Lib.hid hr
  have heq : ∀ W, (binOp .eql 30 (.slice (some ⟨b, o, none⟩) l.length c) (.slice none 0 0)).run Tryz.prog W = .ok (.bool false) W := fun W => Lib.run_eql_slice_nil W 30 3 _ _ _ _ _ Tryz.underlying30
  clear hown hb0 hr ha hi0 hz0 hz1 hz2
  go_enter Tryz.func132, Tryz.ntmps132
  go_wp2_with (at_builtin; refine append_row rfl (.tmp 5) (.tmp 6) 30 rfl w.heap.size 3 i0 _ 8 Tryz.underlying30 Hi0.out Hz0.out Hz1.out Hz2.out (by rfl) _ _ _ rfl Hown.out _ _ _ _ rfl Hr.out (by rw [intCells_len]) (intCells_one l) h63 hby hbs ?_; intro v1 w1 hown1 hg1)
  rw [Nat.zero_add] at hown1
  obtain ⟨g, cap, rfl, hc1, hc2⟩ := own_form hown1 h0
  have Hown1 := Lib.hid hown1
  have Hb := Lib.hid (Hb0.out.grown hg1 (by simp) (fun k hk => (Hown.out.lt k hk).1))
  clear hown1 hg1
  go_wp2
  go_ret
  exact ⟨⟨g, cap, rfl, Hown1.out, hc1, hc2⟩, Hb.out⟩


end Go.Proofs.YtpebgompfgkljaaGreat
namespace Go.Proofs.YtpebgompfgkljaaGreat
open Go.RowKit

theorem row_snoc (f : Nat → Nat) (i : Nat) : Cls.row f i ++ [((f i : Nat) : Int)] = Cls.row f (i + 1) := by
  unfold Cls.row; rw [List.range_succ, List.map_append]; rfl
/-- A row that a call has made. -/
theorem lab_gives {w w' : World} {g n : Nat} {f : Nat → Nat} (h : Lab w' g f n) (hg : w.heap.size ≤ g) (hn : n ≤ maxLen) (hb : Below w.heap.size w w') : Gives w (Cls.row f n) (.returned (.slice (some ⟨g, 0, none⟩) n n)) w' := by
  obtain ⟨all, h1, h2⟩ := h
  refine ⟨_, n, by rw [Cls.row_len], by rw [Cls.row_len]; exact Nat.le_refl _, hn, Or.inr ⟨g, 0, all, rfl, hg, h1, fun i v hv => ?_⟩, hb⟩
  have hi : i < n := by
    have := (List.getElem?_eq_some_iff.1 hv).1
    rwa [intCells_len, Cls.row_len] at this
  rw [Nat.zero_add, h2 i hi]
  simp [intCells, Cls.row_get hi] at hv
  rw [← hv]

set_option maxRecDepth 10000 in
set_option maxHeartbeats 1000000 in
theorem spec_l6Dual (a : Option Addr) (c : Nat) (l : List Int) (w : World) (ha : RowAt w a (intCells l)) (hM : Mp.IsM l) :
    Calls Tryz.prog 139 #[.slice a l.length c] w fun e w' => Gives w (Mp.dual l) e w' := by
  obtain ⟨i0, hi0, hz0, hz1, hz2⟩ := info_int_parts
  have hn : l.length ≤ 24 := hM.2.1
  have hown0 := own_made (w := w) rfl
  have hb0 := (Below.refl w.heap.size w).alloc (Nat.le_refl _) (.cells #[] 3)
  have hfin : Mp.dual l = Cls.row (Mp.dualF l) l.length := rfl
  generalize Mp.dual l = D at *
  generalize hN : w.heap.size = N at *
  have HN := Lib.hid hN
  have Hi0 := Lib.hid hi0; have Hz0 := Lib.hid hz0; have Hz1 := Lib.hid hz1; have Hz2 := Lib.hid hz2
  have Hown0 := Lib.hid hown0; have Hb0 := Lib.hid hb0; have Ha := Lib.hid ha; have HM := Lib.hid hM; have Hfin := Lib.hid hfin
  clear hi0 hz0 hz1 hz2 hown0 hb0 ha hM hfin
  go_enter Tryz.func139, Tryz.ntmps139
  go_wp2
  go_loopw [3, 4] (fun ov iv wr => ∃ i : Nat, i ≤ l.length ∧ iv = .int .i64 i ∧ Hid (Below N w wr) ∧ wr.ownsRow N 3 1 ov i (intCells (Cls.row (Mp.dualF l) i))) (fun _ iv _ => l.length - (intOf iv).toNat)
  case atStart => exact ⟨0, by omega, rfl, Hb0, Hown0.out⟩
  case round =>
    obtain ⟨i, hi, rfl, hb, hown⟩ := hrel
    by_cases hlt : i < l.length
    · have hml := Mp.mate_lt HM.out.2.2.1 hlt
      have hx := Mp.at_get HM.out.2.2.2 hml
      obtain ⟨b, o, rfl, hbw, hcell⟩ := intCells_get? (Ha.out.below (by rw [HN.out]; exact hb.out)) hx
      have hc := fun W => spec_l6Mate i ((i : Nat) : Int) rfl W (by omega)
      have hsn := row_snoc (Mp.dualF l) i
      rw [show Mp.dualF l i = Mp.at_ l (Mp.mate i) from rfl] at hsn
      have hlen := Cls.row_len (Mp.dualF l) i
      generalize Mp.at_ l (Mp.mate i) = y at *
      generalize Mp.mate i = m at *
      generalize Cls.row (Mp.dualF l) i = X at *
      obtain ⟨av, cv, rfl⟩ := own_len hown
      have hNle : N ≤ wr.heap.size := by have := hb.out.size; rw [HN.out] at this; exact this
      have hc1 : i + 1 ≤ maxLen := by unfold maxLen; omega
      have hc2 : (i + 1) * 8 ≤ 140737488355328 := by omega
      have h0m : (0 : Int) ≤ (m : Int) := by omega
      have h1m : (m : Int) < (l.length : Int) := by omega
      have Hc := Lib.hid hc; have Hsn := Lib.hid hsn; have Hlen := Lib.hid hlen
      clear hc hsn hlen hx
      go_wp2_with fail
      refine (Hc.out _).mono ?_
      rintro e w1 ⟨rfl, rfl⟩
      go_wp2_with (at_builtin; refine append_one rfl (.tmp 12) (.tmp 18) 30 rfl N 3 i0 _ 8 Tryz.underlying30 Hi0.out Hz0.out Hz1.out Hz2.out (by rfl) _ _ _ rfl hown (by rfl) _ rfl hc1 hc2 hNle ?_; intro v1 w1 hown1 hg1 _)
      go_roundw
      case rel =>
        refine ⟨i + 1, by omega, by go_num, Lib.hid (Below.grown (hb.out.alloc hNle _) hg1 (by simp; omega) (fun k hk => (hown.lt k hk).1)), ?_⟩
        rw [← Hsn.out, ← intCells_snoc]; exact hown1
      case measure => simp [intOf]; omega
    · obtain rfl : i = l.length := by omega
      obtain ⟨av, cv, rfl⟩ := own_len hown
      have Hown := Lib.hid hown; clear hown
      go_wp2
      go_ret
      rw [Hfin.out]
      exact own_gives (by rw [HN.out]; exact Hown.out) (Cls.row_len _ _) (by rw [HN.out]; exact hb.out)


theorem own_zeros (w : World) (n : Nat) (hn : n ≤ 1000) : (w.alloc (.cells (intCells (Cls.row (fun _ => 0) n)).toArray 3)).ownsRow w.heap.size 3 1 (.slice (some ⟨w.heap.size, 0, none⟩) n n) n (intCells (Cls.row (fun _ => 0) n)) := by
  refine ⟨by rw [intCells_len, Cls.row_len, Nat.mul_one], Or.inr ⟨w.heap.size, n, _, rfl, Nat.le_refl _, heap_alloc_new w _, Nat.le_refl _, by unfold maxLen; omega, by simp [intCells_len, Cls.row_len], ?_⟩⟩
  simp only [Nat.mul_one, List.toList_toArray]
  rw [List.take_of_length_le (by rw [intCells_len, Cls.row_len]; exact Nat.le_refl _)]

theorem give_next {w w1 w2 : World} {q g n cap : Nat} {f : Nat → Nat} (h : w2.ownsRow w1.heap.size 3 1 (.slice (some ⟨g, 0, none⟩) n cap) n (intCells (Cls.row f n))) (hb : Below w.heap.size w w1) (hb2 : Below w1.heap.size w1 w2) : Gives w (Cls.row f n) (.returned (.slice (some ⟨g, 0, none⟩) n cap)) w2 :=
  (own_gives h (Cls.row_len _ _) hb2).later hb

set_option maxRecDepth 10000 in
set_option maxHeartbeats 1000000 in
theorem spec_l6Inverse (a : Option Addr) (c : Nat) (l : List Int) (w : World) (ha : RowAt w a (intCells l)) (hM : Mp.IsM l) :
    Calls Tryz.prog 102 #[.slice a l.length c] w fun e w' => Gives w (Mp.mirror l) e w' := by
  have hn : l.length ≤ 24 := hM.2.1
  have hmk := mk_zeros l.length (by omega)
  have hst := Lab.of_blk (Blk.new w 3 (intCells (Cls.row (fun _ => 0) l.length)).toArray)
  have hb0 := (Below.refl w.heap.size w).alloc (Nat.le_refl _) (.cells (intCells (Cls.row (fun _ => 0) l.length)).toArray 3)
  have hgv := fun w' (h : Lab w' w.heap.size (Mp.invTo l l.length) l.length) (hb : Below w.heap.size w w') => lab_gives h (Nat.le_refl _) (by unfold maxLen; omega) hb
  generalize hN : w.heap.size = N at *
  have HN := Lib.hid hN
  have Hst := Lib.hid hst; have Hb0 := Lib.hid hb0; have Ha := Lib.hid ha; have HM := Lib.hid hM; have Hgv := Lib.hid hgv
  clear hst hb0 ha hM hgv
  go_enter Tryz.func102, Tryz.ntmps102
  go_wp2
  go_loopw [4] (fun iv wr => ∃ i : Nat, i ≤ l.length ∧ iv = .int .i64 i ∧ Hid (Below N w wr) ∧ Hid (Lab wr N (Mp.invTo l i) l.length)) (fun iv _ => l.length - (intOf iv).toNat)
  case atStart => exact ⟨0, by omega, rfl, Hb0, Hst⟩
  case round =>
    obtain ⟨i, hi, rfl, hb, hk⟩ := hrel
    by_cases hlt : i < l.length
    · have hx := Mp.at_get HM.out.2.2.2 hlt
      have hyl := Mp.at_lt HM.out.2.2.2 hlt
      obtain ⟨b, o, rfl, hbw, hcell⟩ := intCells_get? (Ha.out.below (by rw [HN.out]; exact hb.out)) hx
      have hdst := hk.out.cell hyl
      have hfz := hk.out.frozen (Mp.at_ l i)
      have hput := hk.out.put (b := i) hyl
      have hst := hb.out.setCell (p := ⟨N, Mp.at_ l i, none⟩) (Nat.le_refl _) (.int .i64 ((i : Nat) : Int))
      have Hnext : Hid (∀ k, (if k = Mp.at_ l i then i else Mp.invTo l i k) = Mp.invTo l (i + 1) k) := Lib.hid (fun k => rfl)
      generalize Mp.invTo l i (Mp.at_ l i) = z at hdst
      generalize Mp.at_ l i = y at *
      have Hput := Lib.hid hput; have Hst2 := Lib.hid hst
      clear hput hst hx
      go_wp2
      go_roundw
      case rel => exact ⟨i + 1, by omega, by go_num, Hst2, Lib.hid (Hput.out.congr fun k _ => Hnext.out k)⟩
      case measure => simp [intOf]; omega
    · obtain rfl : i = l.length := by omega
      go_wp2
      go_ret
      exact Hgv.out _ hk.out hb.out



end Go.Proofs.YtpebgompfgkljaaGreat
namespace Go.Proofs.YtpebgompfgkljaaGreat
open Go.RowKit

theorem Only.next {lo hi : Nat} {w w' w'' : World} (h : Only lo hi w w') (hb : Below w.heap.size w' w'') : Only lo hi w w'' :=
  ⟨hb.os.trans h.1, hb.tape.trans h.2.1, hb.output.trans h.2.2.1, Nat.le_trans h.size hb.size, fun k hk ho => (hb.block k hk).trans (h.2.2.2.2 k hk ho)⟩
theorem Only.set {G i : Nat} {w w' : World} {v : Value} (h : Only G (G + 1) w w') : Only G (G + 1) w (w'.setCell ⟨G, i, none⟩ v) :=
  ⟨h.1, h.2.1, h.2.2.1, by simpa [World.setCell] using h.size, fun k hk ho => (Below.heap_setCell w' ⟨G, i, none⟩ v k (by show k ≠ G; omega)).trans (h.2.2.2.2 k hk ho)⟩
theorem Only.belowFlg {G N : Nat} {w0 w w' : World} (h : Only G (G + 1) w w') (hb : Below N w0 w) (hG : N ≤ G) (hN : N ≤ w.heap.size) : Below N w0 w' :=
  hb.trans (h.below hG hN)
/-- What lies in other blocks than the flags. -/
theorem RowIn.noFlg {w w' : World} {lo hi G n : Nat} {t : TypeId} {a : Option Addr} {cs : List Value} {s : Nat → Bool} (h : RowIn w lo hi t a cs) (ho : Only G (G + 1) w w') (hf : Flg w G s n) (ht : t ≠ 4) : RowIn w' lo hi t a cs := by
  rcases h with h | ⟨g, o, all, rfl, h3, h4, hk, hc⟩
  · exact Or.inl h
  · refine Or.inr ⟨g, o, all, rfl, h3, h4, ho.block hk ?_, hc⟩
    obtain ⟨all', hk', _⟩ := hf
    have : g ≠ G := by
      rintro rfl
      unfold Blk at hk hk'
      rw [hk] at hk'
      injection hk' with hk'; injection hk' with _ e _
      exact ht e
    omega
theorem own_noFlg {w w' : World} {base n G m : Nat} {e : TypeId} {v : Value} {xs : List Value} {s : Nat → Bool} (h : w.ownsRow base e 1 v n xs) (ho : Only G (G + 1) w w') (hf : Flg w G s m) (ht : e ≠ 4) : w'.ownsRow base e 1 v n xs := by
  obtain ⟨hx, h0 | ⟨g, cap, cur, rfl, hg, hh, h2⟩⟩ := h
  · exact ⟨hx, Or.inl h0⟩
  · refine ⟨hx, Or.inr ⟨g, cap, cur, rfl, hg, ?_, h2⟩⟩
    have hlt : g < w.heap.size := Blk.lt hh
    obtain ⟨all', hk', _⟩ := hf
    have : g ≠ G := by
      rintro rfl
      unfold Blk at hk'
      rw [hh] at hk'
      injection hk' with hk'; injection hk' with _ e' _
      exact ht e'
    rw [ho.2.2.2.2 g hlt (by omega)]; exact hh
theorem Flg.offRow {w w' : World} {G m n base : Nat} {s : Nat → Bool} {e : TypeId} {v : Value} {xs : List Value} {o : Obj} (h : Flg w G s m) (ho : w.ownsRow base e 1 v n xs) (ht : e ≠ 4) (hg : (w.alloc o).grownBy w' v.ownBlock) : Flg w' G s m := by
  refine (h.alloc o).grown hg (fun e' => ?_)
  obtain ⟨cur, hcur⟩ := own_type (ho.alloc o) _ e'.symm
  obtain ⟨all, hall, _⟩ := h.alloc o
  unfold Blk at hall
  rw [hall] at hcur
  injection hcur with hcur; injection hcur with _ e2 _
  exact ht e2.symm
def vLen : Value → Nat
  | .slice _ n _ => n
  | _ => 0

namespace Mp
theorem natRows_len (C : List (List Nat)) : (natRows C).length = C.length := by simp [natRows]
theorem natRows_snoc (C : List (List Nat)) (c : List Nat) : natRows (C ++ [c]) = natRows C ++ [intsOf c] := by simp [natRows, intsOf]
theorem cycTo_skip {f : Nat → Nat} {n i : Nat} (h : (cycTo f n i).1 i = true) : cycTo f n (i + 1) = cycTo f n i := by
  rw [cycTo_succ]; unfold cycStep
  rw [if_pos (show cyc f (n + 1) (cycTo f n i).1 i = [] by unfold cyc; rw [h]; rfl)]
theorem cycTo_take {f : Nat → Nat} {n i : Nat} {c : List Nat} (h : (cycTo f n i).1 i = false) (hc : cyc f (n + 1) (cycTo f n i).1 i = c) : cycTo f n (i + 1) = (seen (cycTo f n i).1 c, (cycTo f n i).2 ++ [c]) ∧ c ≠ [] := by
  have hne : cyc f (n + 1) (cycTo f n i).1 i ≠ [] := by unfold cyc; rw [h]; simp
  rw [cycTo_succ]; unfold cycStep
  rw [if_neg hne, hc]
  exact ⟨rfl, by rw [← hc]; exact hne⟩
theorem cycTo_skip2 {f : Nat → Nat} {n i : Nat} (h : cyc f (n + 1) (cycTo f n i).1 i = []) : cycTo f n (i + 1) = cycTo f n i := by
  rw [cycTo_succ]; unfold cycStep; rw [if_pos h]
theorem cycTo_take2 {f : Nat → Nat} {n i : Nat} {c : List Nat} (hc : cyc f (n + 1) (cycTo f n i).1 i = c) (h : c ≠ []) : cycTo f n (i + 1) = (seen (cycTo f n i).1 c, (cycTo f n i).2 ++ [c]) := by
  rw [cycTo_succ]; unfold cycStep
  rw [if_neg (by rw [hc]; exact h), hc]
theorem cycTo_len (f : Nat → Nat) (n : Nat) : ∀ i, (cycTo f n i).2.length ≤ i
  | 0 => by rw [cycTo_zero]; exact Nat.le_refl _
  | i + 1 => by
    have := cycTo_len f n i
    rw [cycTo_succ]; unfold cycStep
    split
    · omega
    · simp; omega
theorem seen_put (s : Nat → Bool) (c : List Nat) (d k : Nat) : (if k = d then true else seen s c k) = seen s (c ++ [d]) k := by
  rw [seen_snoc]
  by_cases e : k = d
  · simp [e]
  · simp [e]
end Mp

/-- What the outer loop holds: the flags, and the rows. -/
def CycAt (N G : Nat) (wr : World) (f : Nat → Nat) (n i : Nat) (ov : Value) : Prop :=
  Flg wr G (Mp.cycTo f n i).1 n ∧ ∃ hs : List Hd, hs.map Hd.l = Mp.natRows (Mp.cycTo f n i).2 ∧ wr.ownsRow N 30 1 ov (Mp.cycTo f n i).2.length (hdCells hs) ∧ (∀ h ∈ hs, RowIn wr N wr.heap.size 3 h.a (intCells h.l)) ∧ Apts hs

set_option maxRecDepth 10000 in
set_option maxHeartbeats 4000000 in
theorem spec_l6CyclesP (a : Option Addr) (c : Nat) (l : List Int) (w : World) (ha : RowAt w a (intCells l)) (hP : Mp.IsP l) (hn : l.length ≤ 24) :
    Calls Tryz.prog 54 #[.slice a l.length c] w fun e w' => GivesRows w (Mp.cycles l) e w' := by
  obtain ⟨i0, hi0, hz0, hz1, hz2⟩ := info_int_parts
  obtain ⟨j0, hj0, hy0, hy1, hy2⟩ := info_ints_parts
  have hmk := mk_unseen l.length (by omega)
  have hfin : Mp.cycles l = Mp.natRows (Mp.cycTo (Mp.at_ l) l.length l.length).2 := rfl
  have hflt := fun d (hd : d < l.length) => Mp.at_lt hP hd
  have hread : ∀ d, d < l.length → ∃ b o, a = some ⟨b, o, none⟩ ∧ ∀ W, Below w.heap.size w W → W.cell? ⟨b, o + d, none⟩ = some (.int .i64 ((Mp.at_ l d : Nat) : Int)) := fun d hd => by
    obtain ⟨b, o, e, hb, hc⟩ := intCells_get? ha (Mp.at_get hP hd)
    exact ⟨b, o, e, fun W hW => by rw [hW.cell (p := ⟨b, o + d, none⟩) hb]; exact hc⟩
  have hst : CycAt w.heap.size (w.heap.size + 1) ((w.alloc (.cells #[] 30)).alloc (.cells (unseen l.length) 4)) (Mp.at_ l) l.length 0 (.slice (some ⟨w.heap.size, 0, none⟩) 0 0) := by
    refine ⟨?_, [], rfl, (made_rows (w := w) rfl).alloc _, fun _ h => (by cases h), Apts.nil⟩
    have := Flg.start (w.alloc (.cells #[] 30)) l.length
    rw [Mp.cycTo_zero]
    simpa using this
  have hb0 : Below w.heap.size w ((w.alloc (.cells #[] 30)).alloc (.cells (unseen l.length) 4)) := ((Below.refl _ _).alloc (Nat.le_refl _) _).alloc (by simp) _
  generalize Mp.cycles l = R at *
  generalize hF : Mp.at_ l = f at *
  generalize hN : w.heap.size = N at *
  have HN := Lib.hid hN
  have Hi0 := Lib.hid hi0; have Hz0 := Lib.hid hz0; have Hz1 := Lib.hid hz1; have Hz2 := Lib.hid hz2
  have Hj0 := Lib.hid hj0; have Hy0 := Lib.hid hy0; have Hy1 := Lib.hid hy1; have Hy2 := Lib.hid hy2
  have Hst := Lib.hid hst; have Hb0 := Lib.hid hb0; have Hfin := Lib.hid hfin; have Hread := Lib.hid hread; have Hflt := Lib.hid hflt
  clear hi0 hz0 hz1 hz2 hj0 hy0 hy1 hy2 hst hb0 hfin hP ha hread hflt hF
  go_enter Tryz.func54, Tryz.ntmps54
  go_wp2
  go_loopw [3, 5, 6, 7] (fun ov iv _ _ wr => ∃ i : Nat, i ≤ l.length ∧ iv = .int .i64 i ∧ Hid (Below N w wr) ∧ Hid (CycAt N (N + 1) wr f l.length i ov)) (fun _ iv _ _ _ => l.length - (intOf iv).toNat)
  case atStart => exact ⟨0, by omega, rfl, Hb0, Hst⟩
  case round =>
    obtain ⟨i, hi, rfl, hb, hk⟩ := hrel
    by_cases hlt : i < l.length
    · have hseen := hk.out.1.cell hlt
      have hNle : N ≤ wr.heap.size := by have := hb.out.size; rw [HN.out] at this; exact this
      by_cases hs : (Mp.cycTo f l.length i).1 i = true
      · rw [hs] at hseen
        have hsk := Mp.cycTo_skip hs
        have Hsk : Hid (CycAt N (N + 1) wr f l.length (i + 1) _) := Lib.hid (by unfold CycAt; rw [hsk]; exact hk.out)
        clear hs hsk
        go_wp2
        go_roundw
        case rel => exact ⟨i + 1, by omega, by go_num, hb, Hsk⟩
        case measure => simp [intOf]; omega
      · have hs : (Mp.cycTo f l.length i).1 i = false := by simpa using hs
        rw [hs] at hseen
        have htk := fun c (h : Mp.cyc f (l.length + 1) (Mp.cycTo f l.length i).1 i = c) => Mp.cycTo_take hs h
        have hlen := Mp.cycTo_len f l.length i
        have hkk := hk.out
        unfold CycAt at hkk
        have Hnx : Hid (∀ W v, (∃ c, Mp.cyc f (l.length + 1) (Mp.cycTo f l.length i).1 i = c ∧ Flg W (N + 1) (Mp.seen (Mp.cycTo f l.length i).1 c) l.length ∧ ∃ hs : List Hd, hs.map Hd.l = Mp.natRows ((Mp.cycTo f l.length i).2 ++ [c]) ∧ W.ownsRow N 30 1 v ((Mp.cycTo f l.length i).2.length + 1) (hdCells hs) ∧ (∀ h ∈ hs, RowIn W N W.heap.size 3 h.a (intCells h.l)) ∧ Apts hs) → CycAt N (N + 1) W f l.length (i + 1) v) := Lib.hid (by
          rintro W v ⟨c, hc, h1, hs', h2, h3, h4⟩
          unfold CycAt
          rw [(htk c hc).1]
          exact ⟨h1, hs', h2, by rw [List.length_append]; exact h3, h4⟩)
        clear htk hk hs
        generalize (Mp.cycTo f l.length i).1 = s at *
        generalize (Mp.cycTo f l.length i).2 = C at *
        obtain ⟨hflg, hs', hh1, hown, hin, hap⟩ := hkk
        obtain ⟨ova, ovc, rfl⟩ := own_len hown
        have hG : N + 1 < wr.heap.size := hflg.lt
        have hM2 : Hid ((wr.alloc (.cells #[] 3)).ownsRow wr.heap.size 3 1 (.slice (some ⟨wr.heap.size, 0, none⟩) 0 0) 0 (intCells [])) := Lib.hid (own_made rfl)
        have Hal : Hid (Only (N + 1) (N + 1 + 1) wr (wr.alloc (.cells #[] 3))) := Lib.hid (Only.of_below ((Below.refl _ _).alloc (Nat.le_refl _) _) _ _)
        have Hfa : Hid (Flg (wr.alloc (.cells #[] 3)) (N + 1) s l.length) := Lib.hid (hflg.alloc _)
        have Hflg := Lib.hid hflg; have Hh1 := Lib.hid hh1; have Hown := Lib.hid hown; have Hin := Lib.hid hin; have Hap := Lib.hid hap; have Hlen := Lib.hid hlen
        clear hflg hh1 hown hin hap hlen
        obtain ⟨wo, rfl⟩ : ∃ wo, wo = wr := ⟨_, rfl⟩
        go_wp2
        go_loopw [6, 7] (fun cv dv wr => ∃ (cc : List Nat) (d : Nat), dv = .int .i64 d ∧ Hid (Mp.Mid f l.length s i cc d) ∧ Hid (Only (N + 1) (N + 1 + 1) wo wr) ∧ Hid (Flg wr (N + 1) (Mp.seen s cc) l.length) ∧ Hid (wr.ownsRow wo.heap.size 3 1 cv cc.length (intCells (intsOf cc)))) (fun cv _ _ => l.length + 1 - vLen cv)
        case atStart => exact ⟨[], i, rfl, Lib.hid (Mp.Mid.start f s hlt), Hal, Lib.hid (by rw [Mp.seen_nil]; exact Hfa.out), hM2⟩
        case round =>
          obtain ⟨cc, d, rfl, hmid, honly, hfl, hcw⟩ := hrel
          have hd : d < l.length := hmid.out.dlt
          have hcell := hfl.out.cell hd
          have hfz := hfl.out.frozen d
          obtain ⟨ca, ccap, rfl⟩ := own_len hcw.out
          by_cases hsn : Mp.seen s cc d = true
          · rw [hsn] at hcell
            have hcyc := hmid.out.stop hsn
            have hcl := hmid.out.len
            obtain ⟨xa, xc, e, hlc, hfr⟩ := own_fresh hcw.out (by rw [intCells_len, intsOf_len])
            cases e
            have hown2 := own_noFlg Hown.out honly.out Hflg.out (by decide)
            have hin2 := fun h hh => (Hin.out h hh).noFlg honly.out Hflg.out (by decide)
            have hMle := honly.out.size
            have hbB := honly.out.belowFlg hb.out (Nat.le_succ N) hNle
            have hm1 : C.length + 1 ≤ maxLen := by have := Hlen.out; unfold maxLen; omega
            have hm2 : (C.length + 1) * 24 ≤ 140737488355328 := by have := Hlen.out; omega
            have hN2 : N ≤ wr.heap.size := by omega
            have Hcyc := Lib.hid hcyc; have Hfr := Lib.hid hfr; have Hin2 := Lib.hid hin2; have HbB := Lib.hid hbB; have Hlc := Lib.hid hlc
            clear hcyc hfr hin2 hbB hsn hlc
            go_wp2_with (at_builtin; refine append_one rfl (.tmp 40) (.tmp 42) 24 rfl N 30 j0 _ 24 Tryz.underlying24 Hj0.out Hy0.out Hy1.out Hy2.out (by rfl) _ _ _ rfl hown2 (by rfl) _ rfl hm1 hm2 hN2 ?_; intro v1 w1 hown1 hg1 _)
            go_roundw
            case rel =>
              have hst := grid_more (c := ccap) Hin2.out Hap.out hown2 hNle hMle Hfr.out hg1 (by rw [intsOf_len]; exact Hlc.out)
              refine ⟨i + 1, by omega, by go_num, Lib.hid (Below.grown (HbB.out.alloc hN2 _) hg1 (by simp; omega) (fun k hk => (hown2.lt k hk).1)), Lib.hid (Hnx.out _ _ ⟨cc, Hcyc.out, ?_, hs' ++ [⟨ca, ccap, intsOf cc⟩], ?_, ?_, hst⟩)⟩
              · exact hfl.out.offRow hown2 (by decide) hg1
              · rw [List.map_append, Hh1.out, Mp.natRows_snoc]; rfl
              · rw [← hdCells_snoc]; unfold Hd.val; rw [intsOf_len]; exact hown1
            case measure => simp [intOf]; omega
          · have hsn : Mp.seen s cc d = false := by simpa using hsn
            rw [hsn] at hcell
            have hstep := hmid.out.step hsn (Hflt.out d hd)
            have hput := (hfl.out.put true hd).congr fun k _ => Mp.seen_put s cc d k
            have ho2 := honly.out.set (i := d) (v := .bool true)
            have hcl := hmid.out.len
            have hMle := honly.out.size
            have hcw2 : (wr.setCell ⟨N + 1, d, none⟩ (.bool true)).ownsRow wo.heap.size 3 1 (.slice ca cc.length ccap) cc.length (intCells (intsOf cc)) :=
              own_grown hcw.out (g := N + 1) (only_setCell (World.grownBy.refl _ _) (Or.inl rfl) _) (fun k hk => by have := (hcw.out.lt k hk).1; omega)
            have hsz : (wr.setCell ⟨N + 1, d, none⟩ (.bool true)).heap.size = wr.heap.size := by simp [World.setCell]
            have hbs : wo.heap.size ≤ (wr.setCell ⟨N + 1, d, none⟩ (.bool true)).heap.size := by rw [hsz]; exact hMle
            have hm1 : cc.length + 1 ≤ maxLen := by unfold maxLen; omega
            have hm2 : (cc.length + 1) * 8 ≤ 140737488355328 := by omega
            obtain ⟨b, o, rfl, hrd⟩ := Hread.out d hd
            have Hrd := Lib.hid hrd; have Hstep := Lib.hid hstep; have Hput := Lib.hid hput; have Ho2 := Lib.hid ho2
            have hnext : ∀ (v1 : Value) (w3 : World), ((wr.setCell ⟨N + 1, d, none⟩ (.bool true)).alloc (.cells #[.int .i64 (d : Int)] 3)).grownBy w3 (Value.slice ca cc.length ccap).ownBlock → Only (N + 1) (N + 1 + 1) wo w3 := fun v1 w3 hg => by
              refine Ho2.out.next ?_
              have h1 : Below wo.heap.size (wr.setCell ⟨N + 1, d, none⟩ (.bool true)) ((wr.setCell ⟨N + 1, d, none⟩ (.bool true)).alloc (.cells #[.int .i64 (d : Int)] 3)) := (Below.refl _ _).alloc hbs _
              exact h1.grown hg (by simp; omega) (fun k hk => (hcw.out.lt k hk).1)
            have Hnext := Lib.hid hnext
            clear hrd hstep hput ho2 hsn hnext
            go_wp2_with (at_builtin; refine append_one_at _ hsz rfl (.tmp 36) (.tmp 38) 30 rfl wo.heap.size 3 i0 _ 8 Tryz.underlying30 Hi0.out Hz0.out Hz1.out Hz2.out (by rfl) _ _ _ rfl hcw2 (by rfl) _ rfl hm1 hm2 hbs ?_; intro v1 w3 hown1 hg1 _; have hrd := Hrd.out w3 ((Hnext.out v1 w3 hg1).belowFlg hb.out (Nat.le_succ N) hNle))
            go_roundw
            case rel =>
              refine ⟨cc ++ [d], f d, rfl, Hstep, Lib.hid (Hnext.out v1 _ hg1), Lib.hid ?_, Lib.hid ?_⟩
              · refine (Hput.out.alloc _).grown hg1 (fun e => ?_)
                have := (hcw.out.lt _ e.symm).1
                omega
              · rw [List.length_append, intsOf_snoc, ← intCells_snoc]; exact hown1
            case measure =>
              obtain ⟨xa, xc, e⟩ := own_len hown1
              subst e
              simp [vLen]; omega
    · obtain rfl : i = l.length := by omega
      obtain ⟨hs', hh1, hown, hin, hap⟩ := hk.out.2
      obtain ⟨ga, gc, rfl, hgc, hgm, hgrid⟩ := grid_done hown (by have := congrArg List.length hh1; rw [List.length_map, Mp.natRows_len] at this; exact this) hin hap
      rw [hh1] at hgrid
      have Hgrid := Lib.hid hgrid
      clear hh1 hown hin hap hgrid hk
      go_wp2
      go_ret
      rw [Hfin.out]
      exact ⟨ga, gc, by rw [Mp.natRows_len]; rfl, by rw [Mp.natRows_len]; exact hgc, hgm, by rw [HN.out]; exact Hgrid.out, by rw [HN.out]; exact hb.out⟩
theorem spec_l6Cycles (a : Option Addr) (c : Nat) (l : List Int) (w : World) (ha : RowAt w a (intCells l)) (hM : Mp.IsM l) :
    Calls Tryz.prog 54 #[.slice a l.length c] w fun e w' => GivesRows w (Mp.cycles l) e w' := spec_l6CyclesP a c l w ha hM.2.2.2 hM.2.1





namespace Mp
theorem cycs_sum {f : Nat → Nat} {n : Nat} (hf : ∀ d, d < n → f d < n) : ∀ i, i ≤ n → (∀ c ∈ (cycTo f n i).2, c.Nodup ∧ ∀ x ∈ c, x < n)
  | 0, _ => by rw [cycTo_zero]; intro c hc; cases hc
  | i + 1, hi => by
    intro c hc
    have ih := cycs_sum hf i (by omega)
    rw [cycTo_succ] at hc; unfold cycStep at hc
    split at hc
    · exact ih c hc
    · simp only [List.mem_append, List.mem_singleton] at hc
      rcases hc with hc | rfl
      · exact ih c hc
      · -- the walk's own facts
        have key : ∀ (m : Nat) {cc : List Nat} {d : Nat}, n + 1 - cc.length ≤ m → Mid f n (cycTo f n i).1 i cc d → ∃ c d, Mid f n (cycTo f n i).1 i c d ∧ seen (cycTo f n i).1 c d = true := by
          intro m
          induction m with
          | zero => intro cc d hm h; have := h.len; omega
          | succ m ih2 =>
            intro cc d hm h
            by_cases hd : seen (cycTo f n i).1 cc d = true
            · exact ⟨cc, d, h, hd⟩
            · exact ih2 (by have := h.len; rw [List.length_append, List.length_singleton]; omega) (h.step (by simpa using hd) (hf _ h.dlt))
        obtain ⟨c, d, h, hd⟩ := key (n + 1) (cc := []) (d := i) (by simp) (Mid.start f _ (by omega))
        rw [h.stop hd]
        exact ⟨h.nodup, h.lt⟩
theorem natRows_tot {f : Nat → Nat} {n : Nat} (hf : ∀ d, d < n → f d < n) (hn : n ≤ 24) : tot (natRows (cycTo f n n).2) ≤ 1000000 := by
  have h1 := cycs_sum hf n (Nat.le_refl _)
  have h2 := cycTo_len f n n
  have h3 : ∀ L : List (List Nat), (∀ c ∈ L, c.length ≤ 24) → sumLen (natRows L) ≤ 24 * L.length := by
    intro L
    induction L with
    | nil => intro _; simp [sumLen, natRows]
    | cons c t ih =>
      intro h
      have a := h c (List.mem_cons_self ..)
      have b := ih fun x hx => h x (List.mem_cons_of_mem _ hx)
      unfold sumLen natRows at b ⊢
      simp only [List.map_cons, List.sum_cons, List.length_map, List.length_cons] at b ⊢
      omega
  have := h3 _ fun c hc => Nat.le_trans (nodup_len (h1 c hc).1 (h1 c hc).2) hn
  unfold tot
  rw [natRows_len]; omega
theorem cyclesOf_tot (l : List Int) : tot (cyclesOf l) ≤ 1000000 := by
  unfold cyclesOf; split
  · rename_i h; exact natRows_tot (fun d hd => at_lt h.2.2.2 hd) h.2.1
  · simp [tot, sumLen]
theorem facesOf_tot (l : List Int) : tot (facesOf l) ≤ 1000000 := by
  unfold facesOf; split
  · rename_i h; exact natRows_tot (fun d hd => at_lt (dual_isM h).2.2.2 hd) (dual_isM h).2.1
  · simp [tot, sumLen]
end Mp
end Go.Proofs.YtpebgompfgkljaaGreat
namespace Go.Proofs.YtpebgompfgkljaaGreat
open Go.RowKit

theorem ownRow_lab {w : World} {lo g cap n : Nat} {f : Nat → Nat} (h : w.ownsRow lo 3 1 (.slice (some ⟨g, 0, none⟩) n cap) n (intCells (Cls.row f n))) : Lab w g f n := by
  rcases h.2 with ⟨e, _⟩ | ⟨g', cap', cur, e, _, hh, _⟩
  · cases e
  · cases e
    refine ⟨cur, hh, fun k hk => ?_⟩
    have h1 := ownRow_cell h hk
    have h2 : Blk w g 3 cur := hh
    rw [h2.cell k] at h1; exact h1
theorem Lab.only {w w' : World} {g n : Nat} {u : Nat → Nat} (h : Lab w g u n) (hb : w.grownBy w' (some g)) {k m : Nat} {v : Nat → Nat} (hk : Lab w k v m) (hne : k ≠ g) : Lab w' k v m := by
  obtain ⟨all, h1, h2⟩ := hk
  exact ⟨all, h1.grown hb (fun e => hne (Option.some.inj e)), h2⟩
namespace Mp
theorem ring_snoc1 (l : List Int) (i : Nat) : Cls.merge (Cls.merge (Cls.mergeAll (pairsTo l i)) (i, at_ l i)) (i, mate i) = Cls.mergeAll (pairsTo l (i + 1)) := by
  rw [pairsTo_succ, Cls.mergeAll_snoc, Cls.mergeAll_snoc]
end Mp
set_option maxRecDepth 10000 in
theorem map_l1Bit (b : Bool) (w : World) : Calls Tryz.prog 56 #[.bool b] w fun e w' => e = .returned (.int .i64 (if b then 1 else 0)) ∧ w' = w := by
  cases b
  · go_enter Tryz.func56, Tryz.ntmps56
    go_wp2
    go_ret
    exact ⟨rfl, rfl⟩
  · go_enter Tryz.func56, Tryz.ntmps56
    go_wp2
    go_ret
    exact ⟨rfl, rfl⟩
set_option maxRecDepth 10000 in
set_option maxHeartbeats 4000000 in
theorem spec_l6Parts (a : Option Addr) (c : Nat) (l : List Int) (w : World) (ha : RowAt w a (intCells l)) (hM : Mp.IsM l) :
    Calls Tryz.prog 111 #[.slice a l.length c] w fun e w' => e = .returned (.int .i64 ((Mp.parts l : Nat) : Int)) ∧ Below w.heap.size w w' := by
  obtain ⟨i0, hi0, hz0, hz1, hz2⟩ := info_int_parts
  have hn : l.length ≤ 24 := hM.2.1
  have h2 : 2 ≤ l.length := hM.1
  have hown0 := own_made (w := w) rfl
  have hb0 := (Below.refl w.heap.size w).alloc (Nat.le_refl _) (.cells #[] 3)
  obtain ⟨V, hv⟩ : ∃ V, ((Mp.parts l : Nat) : Int) = V := ⟨_, rfl⟩
  rw [hv]
  have hread : ∀ d, d < l.length → ∃ b o, a = some ⟨b, o, none⟩ ∧ ∀ W, Below w.heap.size w W → W.cell? ⟨b, o + d, none⟩ = some (.int .i64 ((Mp.at_ l d : Nat) : Int)) := fun d hd => by
    obtain ⟨b, o, e, hb, hc⟩ := intCells_get? ha (Mp.at_get hM.2.2.2 hd)
    exact ⟨b, o, e, fun W hW => by rw [hW.cell (p := ⟨b, o + d, none⟩) hb]; exact hc⟩
  generalize hN : w.heap.size = N at *
  have HN := Lib.hid hN
  have Hi0 := Lib.hid hi0; have Hz0 := Lib.hid hz0; have Hz1 := Lib.hid hz1; have Hz2 := Lib.hid hz2
  have Hown0 := Lib.hid hown0; have Hb0 := Lib.hid hb0; have HM := Lib.hid hM; have Hv := Lib.hid hv; have Hread := Lib.hid hread
  clear hi0 hz0 hz1 hz2 hown0 hb0 ha hM hv hread
  go_enter Tryz.func111, Tryz.ntmps111
  go_wp2
  go_loopw [3, 4] (fun ov iv wr => ∃ i : Nat, i ≤ l.length ∧ iv = .int .i64 i ∧ Below N w wr ∧ wr.ownsRow N 3 1 ov i (intCells (Cls.row id i))) (fun _ iv _ => l.length - (intOf iv).toNat)
  case atStart => exact ⟨0, by omega, rfl, Hb0.out, Hown0.out⟩
  case round =>
    obtain ⟨i, hi, rfl, hb, hown⟩ := hrel
    by_cases hlti : i < l.length
    · have hNle : N ≤ wr.heap.size := by have := hb.size; rw [HN.out] at this; exact this
      have Hst := Lib.hid (row_snoc id i)
      obtain ⟨av, cv, rfl⟩ := own_len hown
      have hm1 : i + 1 ≤ maxLen := by unfold maxLen; omega
      have hm2 : (i + 1) * 8 ≤ 140737488355328 := by omega
      generalize Cls.row id i = X at *
      go_wp2_with (at_builtin; refine append_one rfl (.tmp 15) (.tmp 17) 30 rfl N 3 i0 _ 8 Tryz.underlying30 Hi0.out Hz0.out Hz1.out Hz2.out (by rfl) _ _ _ rfl hown (by rfl) _ rfl hm1 hm2 hNle ?_; intro v1 w1 hown1 hg1 _)
      go_roundw
      case rel =>
        refine ⟨i + 1, by omega, by go_num, Below.grown (hb.alloc hNle _) hg1 (by simp; omega) (fun k hk => (hown.lt k hk).1), ?_⟩
        rw [← Hst.out, ← intCells_snoc]; exact hown1
      case measure => simp [intOf]; omega
    · obtain rfl : i = l.length := by omega
      obtain ⟨g, cap, rfl, hcap, hcm⟩ := own_form hown (by omega)
      have hgN := (hown.lt g rfl).1
      have Hlab := Lib.hid (ownRow_lab hown); have HgN := Lib.hid hgN; have Hb := Lib.hid hb
      clear hown hgN hb
      go_wp2
      go_loopw [5] (fun iv wr => ∃ i : Nat, i ≤ l.length ∧ iv = .int .i64 i ∧ Hid (Below N w wr) ∧ Hid (∃ u d, Lab wr g u l.length ∧ Cls.Up u (Cls.mergeAll (Mp.pairsTo l i)) d l.length)) (fun iv _ => l.length - (intOf iv).toNat)
      case atStart => exact ⟨0, by omega, rfl, Hb, Lib.hid ⟨id, _, Hlab.out, Cls.Up.start _⟩⟩
      case round =>
        clear Hb Hlab
        obtain ⟨i, hi, rfl, hb, hk⟩ := hrel
        by_cases hlti : i < l.length
        · obtain ⟨u, d, hlab, hup⟩ := hk.out
          have hml := Mp.mate_lt HM.out.2.2.1 hlti
          have hal := Mp.at_lt HM.out.2.2.2 hlti
          have hup1 := hup.link (p := (i, Mp.at_ l i)) hlti hal
          have hca := hup.ok.lt i hlti
          have hca1 := hup1.ok.lt i hlti
          have hup2 := hup1.link (p := (i, Mp.mate i)) hlti hml
          rw [Mp.ring_snoc1] at hup2
          obtain ⟨b, o, rfl, hrd⟩ := Hread.out i hlti
          have hcell := hrd wr hb.out
          have hfx := fun W h => spec_l3Find (some ⟨g, 0, none⟩) cap l.length u _ d i (i : Int) rfl W h hup hlti (by omega)
          have hfy := fun W h => spec_l3Find (some ⟨g, 0, none⟩) cap l.length u _ d (Mp.at_ l i) ((Mp.at_ l i : Nat) : Int) rfl W h hup hal (by omega)
          have hfx1 := fun W h => spec_l3Find (some ⟨g, 0, none⟩) cap l.length _ _ _ i (i : Int) rfl W h hup1 hlti (by omega)
          have hfy1 := fun W h => spec_l3Find (some ⟨g, 0, none⟩) cap l.length _ _ _ (Mp.mate i) ((Mp.mate i : Nat) : Int) rfl W h hup1 hml (by omega)
          have hmt := fun W => spec_l6Mate i (i : Int) rfl W (by omega)
          have hput := (hlab.drewN 1).put (b := Cls.mergeAll (Mp.pairsTo l i) (Mp.at_ l i)) hca
          have hput1 := hput.put (b := Cls.merge (Cls.mergeAll (Mp.pairsTo l i)) (i, Mp.at_ l i) (Mp.mate i)) hca1
          have hdst := hlab.cell hca
          have hdst1 := hput.cell hca1
          have hfz := hlab.frozen (Cls.mergeAll (Mp.pairsTo l i) i)
          have hfz1 := hput.frozen (Cls.merge (Cls.mergeAll (Mp.pairsTo l i)) (i, Mp.at_ l i) i)
          have hrow := hlab.row
          have hrow1 := hput.row
          have hb1 := (below_drewN hb.out 1).setCell (p := ⟨g, Cls.mergeAll (Mp.pairsTo l i) i, none⟩) HgN.out (.int .i64 ((Cls.mergeAll (Mp.pairsTo l i) (Mp.at_ l i) : Nat) : Int))
          have hb2 := hb1.setCell (p := ⟨g, Cls.merge (Cls.mergeAll (Mp.pairsTo l i)) (i, Mp.at_ l i) i, none⟩) HgN.out (.int .i64 ((Cls.merge (Cls.mergeAll (Mp.pairsTo l i)) (i, Mp.at_ l i) (Mp.mate i) : Nat) : Int))
          have hup3 : ∀ d2, Cls.Up _ _ d2 l.length → Hid (∃ d, Cls.Up (fun k => if k = Cls.merge (Cls.mergeAll (Mp.pairsTo l i)) (i, Mp.at_ l i) i then Cls.merge (Cls.mergeAll (Mp.pairsTo l i)) (i, Mp.at_ l i) (Mp.mate i) else (fun k => if k = Cls.mergeAll (Mp.pairsTo l i) i then Cls.mergeAll (Mp.pairsTo l i) (Mp.at_ l i) else u k) k) (Cls.mergeAll (Mp.pairsTo l (i + 1))) d l.length) := fun d2 h => Lib.hid ⟨d2, h⟩
          have Hup3 := hup3 _ hup2
          clear hup3 hup2 hup1 hup hb2
          generalize hra1 : Cls.merge (Cls.mergeAll (Mp.pairsTo l i)) (i, Mp.at_ l i) i = ra1 at *
          generalize Cls.merge (Cls.mergeAll (Mp.pairsTo l i)) (i, Mp.at_ l i) (Mp.mate i) = rb1 at *
          generalize Cls.mergeAll (Mp.pairsTo l i) i = ra at *
          generalize Cls.mergeAll (Mp.pairsTo l i) (Mp.at_ l i) = rb at *
          generalize Mp.at_ l i = y at *
          generalize Mp.mate i = m at *
          generalize (if ra1 = ra then rb else u ra1) = z1 at hdst1
          generalize u ra = z at hdst
          have hc0 : (0 : Int) ≤ (ra : Int) := by omega
          have hc1 : (ra : Int) < (l.length : Int) := by omega
          have hd0 : (0 : Int) ≤ (ra1 : Int) := by omega
          have hd1 : (ra1 : Int) < (l.length : Int) := by omega
          have hi0 : (0 : Int) ≤ (i : Int) := by omega
          have hi1 : (i : Int) < (l.length : Int) := by omega
          have Hfx := Lib.hid hfx; have Hfy := Lib.hid hfy; have Hfx1 := Lib.hid hfx1; have Hfy1 := Lib.hid hfy1; have Hmt := Lib.hid hmt
          have Hput1 := Lib.hid hput1; have Hrow := Lib.hid hrow; have Hrow1 := Lib.hid hrow1; have Hb1 := Lib.hid hb1
          clear hfx hfy hfx1 hfy1 hmt hput hput1 hrow hrow1 hb1 hlab hrd hk hra1
          go_wp2
          go_still_tail 11, (by kernel_rfl)
          still_call (Hfx.out _ Hrow.out)
          repeat still_step
          still_call (Hfy.out _ Hrow.out)
          repeat still_step
          refine wpStill_nil ?_
          change wpList _ _ _ _ _ wr.drew
          go_wp2_with fail
          refine (Hfx1.out _ Hrow1.out).mono ?_
          rintro e w2 ⟨rfl, rfl⟩
          go_wp2_with fail
          refine (Hmt.out _).mono ?_
          rintro e w2 ⟨rfl, hw2⟩
          rw [hw2]; clear hw2
          go_wp2_with fail
          refine (Hfy1.out _ Hrow1.out).mono ?_
          rintro e w3 ⟨rfl, hw3⟩
          rw [hw3]; clear hw3
          go_wp2
          go_roundw
          case rel =>
            obtain ⟨d', hd'⟩ := Hup3.out
            exact ⟨i + 1, by omega, by go_num, Lib.hid (Hb1.out.setCell HgN.out _), Lib.hid ⟨_, d', Hput1.out, hd'⟩⟩
          case measure => simp [intOf]; omega
        · obtain rfl : i = l.length := by omega
          obtain ⟨u, d, hlab, hup⟩ := hk.out
          have Hup := Lib.hid (show Cls.Up u (Mp.ring l) d l.length from hup); have Hlab := Lib.hid hlab; have Hb := hb
          have Hv2 : Hid (((Cls.tally (Mp.ring l) (List.range l.length) : Nat) : Int) = V) := Hv
          clear hup hlab hk hb
          generalize Mp.ring l = rg at *
          go_wp2
          go_loopw [6, 7] (fun sv kv w2 => ∃ k : Nat, k ≤ l.length ∧ kv = .int .i64 k ∧ sv = .int .i64 ((Cls.tally rg (List.range k) : Nat) : Int) ∧ w2 = wr) (fun _ kv _ => l.length - (intOf kv).toNat)
          case atStart => exact ⟨0, by omega, rfl, rfl, rfl⟩
          case round =>
            obtain ⟨k, hk, rfl, rfl, rfl⟩ := hrel
            by_cases hltk : k < l.length
            · have hcell := Hlab.out.cell hltk
              have hroot := Hup.out.root k hltk
              have hst : Cls.tally rg (List.range (k + 1)) = Cls.tally rg (List.range k) + (if rg k = k then 1 else 0) := by rw [List.range_succ, Cls.tally_snoc]
              have htl := Cls.tally_le rg (List.range k)
              rw [List.length_range] at htl
              generalize u k = uk at *
              obtain ⟨b1, hb1⟩ : ∃ b1, ((uk : Int) == (k : Int)) = b1 := ⟨_, rfl⟩
              have ht1 : (((if rg k = k then 1 else 0) : Nat) : Int) = if b1 then 1 else 0 := by
                subst hb1
                by_cases h : uk = k
                · rw [if_pos (hroot.1 h), if_pos (by simp; omega)]; rfl
                · rw [if_neg (fun hh => h (hroot.2 hh)), if_neg (by simp; omega)]; rfl
              have hn1 : (if rg k = k then 1 else 0 : Nat) ≤ 1 := by split <;> omega
              generalize (if rg k = k then 1 else 0 : Nat) = n1 at *
              generalize Cls.tally rg (List.range k) = S at *
              generalize hS' : Cls.tally rg (List.range (k + 1)) = S' at *
              have hbit := fun W => map_l1Bit b1 W
              rw [← ht1] at hbit
              have Hbit := Lib.hid hbit; have HS' := Lib.hid hS'; have Hst := Lib.hid hst
              clear ht1 hbit hroot hst hS'
              go_wp2_with fail
              refine (Hbit.out _).mono ?_
              rintro e w2 ⟨rfl, rfl⟩
              go_wp2
              go_roundw
              case rel => exact ⟨k + 1, by omega, by go_num, by rw [HS'.out, Hst.out]; go_num, trivial⟩
              case measure => simp [intOf]; omega
            · obtain rfl : k = l.length := by omega
              go_wp2
              go_ret
              exact ⟨by rw [← Hv2.out]; rfl, Hb.out⟩

set_option maxRecDepth 10000 in
set_option maxHeartbeats 1000000 in
theorem spec_MapParts (a : Option Addr) (c : Nat) (l : List Int) (w : World) (ha : RowAt w a (intCells l)) (hl : l.length ≤ 1048576) :
    Calls Tryz.prog 48 #[.slice a l.length c] w fun e w' => e = .returned (.int .i64 (Mp.partsOf l)) ∧ Below w.heap.size w w' := by
  have hc := spec_IsMap a c l w ha hl
  by_cases hM : Mp.IsM l
  · rw [decide_eq_true hM] at hc
    have hd := fun W (h : RowAt W a (intCells l)) => spec_l6Parts a c l W h hM
    have hf : Mp.partsOf l = ((Mp.parts l : Nat) : Int) := if_pos hM
    rw [hf]
    generalize ((Mp.parts l : Nat) : Int) = D at *
    have Hc := Lib.hid hc; have Hd := Lib.hid hd; have Ha := Lib.hid ha
    clear hc hd hM hf ha
    go_enter Tryz.func48, Tryz.ntmps48
    go_wp2_with fail
    refine Hc.out.mono ?_
    rintro e w1 ⟨rfl, hb⟩
    have Hb := Lib.hid hb; clear hb
    go_wp2_with fail
    refine (Hd.out _ (Ha.out.below Hb.out)).mono ?_
    rintro e w2 ⟨rfl, hb2⟩
    go_wp2
    go_ret
    exact ⟨rfl, Hb.out.trans (hb2.mono Hb.out.size)⟩
  · rw [decide_eq_false hM] at hc
    have hf : Mp.partsOf l = -1 := if_neg hM
    rw [hf]
    have Hc := Lib.hid hc
    clear hc hM hf ha
    go_enter Tryz.func48, Tryz.ntmps48
    go_wp2_with fail
    refine Hc.out.mono ?_
    rintro e w1 ⟨rfl, hb⟩
    go_wp2
    go_ret
    exact ⟨rfl, hb⟩


end Go.Proofs.YtpebgompfgkljaaGreat
namespace Go.Proofs.YtpebgompfgkljaaGreat
open Go.RowKit

namespace Mp
theorem cyc_congr {f g : Nat → Nat} {n : Nat} (h : ∀ d, d < n → g d = f d) (hf : ∀ d, d < n → f d < n) : ∀ k s d, d < n → cyc g k s d = cyc f k s d
  | 0, _, _, _ => rfl
  | k + 1, s, d, hd => by
    unfold cyc
    rw [h d hd, cyc_congr h hf k _ _ (hf d hd)]
theorem cycTo_congr {f g : Nat → Nat} {n : Nat} (h : ∀ d, d < n → g d = f d) (hf : ∀ d, d < n → f d < n) : ∀ i, i ≤ n → cycTo g n i = cycTo f n i
  | 0, _ => rfl
  | i + 1, hi => by
    rw [cycTo_succ, cycTo_succ, cycTo_congr h hf i (by omega)]
    unfold cycStep
    rw [cyc_congr h hf _ _ _ (by omega)]
theorem cycs_dual {l : List Int} (h : IsM l) : cycs (dual l) = (cycTo (fun d => at_ l (mate d)) l.length l.length).2 := by
  unfold cycs
  rw [dual_len, cycTo_congr (f := fun d => at_ l (mate d)) (g := at_ (dual l)) (fun d hd => at_of_row hd) (fun d hd => at_lt h.2.2.2 (mate_lt h.2.2.1 hd)) _ (Nat.le_refl _)]
theorem cycs_le {l : List Int} : (cycs l).length ≤ l.length := cycTo_len _ _ _
theorem parts_le {l : List Int} : parts l ≤ l.length := by
  unfold parts
  have := Cls.tally_le (ring l) (List.range l.length)
  rwa [List.length_range] at this
theorem tdiv2 (x : Int) : -(x.natAbs : Int) ≤ x.tdiv 2 ∧ x.tdiv 2 ≤ (x.natAbs : Int) := by
  cases x with
  | ofNat m =>
    have : (Int.ofNat m).tdiv 2 = ((m / 2 : Nat) : Int) := rfl
    rw [this, show (Int.ofNat m).natAbs = m from rfl]; omega
  | negSucc m =>
    have : (Int.negSucc m).tdiv 2 = -(((m + 1) / 2 : Nat) : Int) := rfl
    rw [this, show (Int.negSucc m).natAbs = m + 1 from rfl]; omega
end Mp

set_option maxRecDepth 10000 in
set_option maxHeartbeats 2000000 in
theorem spec_l6Genus (a : Option Addr) (c : Nat) (l : List Int) (w : World) (ha : RowAt w a (intCells l)) (hM : Mp.IsM l) :
    Calls Tryz.prog 112 #[.slice a l.length c] w fun e w' => e = .returned (.int .i64 (Mp.genus l)) ∧ Below w.heap.size w w' := by
  have hn := hM.2.1
  have hp := fun W (h : RowAt W a (intCells l)) => spec_l6Parts a c l W h hM
  have hc1 := fun W (h : RowAt W a (intCells l)) => spec_l6Cycles a c l W h hM
  have hx := fun W (h : RowAt W a (intCells l)) => spec_l6Dual a c l W h hM
  have hc2 := fun a' c' W (h : RowAt W a' (intCells (Mp.dual l))) => spec_l6Cycles a' c' (Mp.dual l) W h (Mp.dual_isM hM)
  have hl1 : (Mp.cycles l).length = (Mp.cycs l).length := Mp.natRows_len _
  have hl2 : (Mp.cycles (Mp.dual l)).length = (Mp.cycs (Mp.dual l)).length := Mp.natRows_len _
  have b1 : (Mp.cycs l).length ≤ 24 := Nat.le_trans Mp.cycs_le hn
  have b2 : (Mp.cycs (Mp.dual l)).length ≤ 24 := Nat.le_trans Mp.cycs_le (by rw [Mp.dual_len]; exact hn)
  have b3 : Mp.parts l ≤ 24 := Nat.le_trans Mp.parts_le hn
  have hv : Mp.genus l = (Mp.parts l : Int) - (((Mp.cycs l).length : Int) - ((l.length / 2 : Nat) : Int) + ((Mp.cycs (Mp.dual l)).length : Int)).tdiv 2 := rfl
  rw [← hl1] at hv b1
  rw [← hl2] at hv b2
  generalize Mp.genus l = V at *
  have ht : Int.tdiv (l.length : Int) 2 = ((l.length / 2 : Nat) : Int) := rfl
  have hw : IntKind.i64.wrap ((l.length / 2 : Nat) : Int) = ((l.length / 2 : Nat) : Int) := wrap_small (by omega) (by omega)
  have hh : l.length / 2 ≤ 12 := by omega
  generalize hm : l.length / 2 = m at *
  generalize Mp.cycles l = C1 at *
  generalize Mp.cycles (Mp.dual l) = C2 at *
  generalize Mp.dual l = D at *
  generalize Mp.parts l = P at *
  have w1 : IntKind.i64.wrap ((C1.length : Int) - (m : Int)) = (C1.length : Int) - (m : Int) := wrap_small (by omega) (by omega)
  have w2 : IntKind.i64.wrap ((C1.length : Int) - (m : Int) + (C2.length : Int)) = (C1.length : Int) - (m : Int) + (C2.length : Int) := wrap_small (by omega) (by omega)
  have hb := Mp.tdiv2 ((C1.length : Int) - (m : Int) + (C2.length : Int))
  have w3 : IntKind.i64.wrap (((C1.length : Int) - (m : Int) + (C2.length : Int)).tdiv 2) = ((C1.length : Int) - (m : Int) + (C2.length : Int)).tdiv 2 := wrap_small (by omega) (by omega)
  have w4 : IntKind.i64.wrap ((P : Int) - ((C1.length : Int) - (m : Int) + (C2.length : Int)).tdiv 2) = V := by rw [hv]; exact wrap_small (by omega) (by omega)
  have Hp := Lib.hid hp; have Hc1 := Lib.hid hc1; have Hx := Lib.hid hx; have Hc2 := Lib.hid hc2; have Ha := Lib.hid ha
  clear hp hc1 hx hc2 ha hM hv hb hl1 hl2 hm
  go_enter Tryz.func112, Tryz.ntmps112
  go_wp2_with fail
  refine (Hp.out _ Ha.out).mono ?_
  rintro e u1 ⟨rfl, hb1⟩
  have Hb1 := Lib.hid hb1; clear hb1
  go_wp2_with fail
  refine (Hc1.out _ (Ha.out.below Hb1.out)).mono ?_
  rintro e u2 ⟨r1, k1, rfl, _, _, _, hb2⟩
  have Hb2 := Lib.hid (Hb1.out.trans (hb2.mono Hb1.out.size)); clear hb2
  go_wp2_with fail
  refine (Hx.out _ (Ha.out.below Hb2.out)).mono ?_
  rintro e u3 ⟨r2, k2, rfl, _, _, hfx, hb3⟩
  have Hb3 := Lib.hid (Hb2.out.trans (hb3.mono Hb2.out.size)); have Hfx := Lib.hid hfx.row; clear hb3 hfx
  go_wp2_with fail
  refine (Hc2.out _ _ _ Hfx.out).mono ?_
  rintro e u4 ⟨r3, k3, rfl, _, _, _, hb4⟩
  have Hb4 := Lib.hid (Hb3.out.trans (hb4.mono Hb3.out.size)); clear hb4
  go_wp2
  go_ret
  exact ⟨by first | rfl | simp [*], Hb4.out⟩

set_option maxRecDepth 10000 in
set_option maxHeartbeats 1000000 in
theorem spec_GenusOf (a : Option Addr) (c : Nat) (l : List Int) (w : World) (ha : RowAt w a (intCells l)) (hl : l.length ≤ 1048576) :
    Calls Tryz.prog 49 #[.slice a l.length c] w fun e w' => e = .returned (.int .i64 (Mp.genusOf l)) ∧ Below w.heap.size w w' := by
  have hc := spec_IsMap a c l w ha hl
  by_cases hM : Mp.IsM l
  · rw [decide_eq_true hM] at hc
    have hd := fun W (h : RowAt W a (intCells l)) => spec_l6Genus a c l W h hM
    have hf : Mp.genusOf l = Mp.genus l := if_pos hM
    rw [hf]
    generalize Mp.genus l = D at *
    have Hc := Lib.hid hc; have Hd := Lib.hid hd; have Ha := Lib.hid ha
    clear hc hd hM hf ha
    go_enter Tryz.func49, Tryz.ntmps49
    go_wp2_with fail
    refine Hc.out.mono ?_
    rintro e w1 ⟨rfl, hb⟩
    have Hb := Lib.hid hb; clear hb
    go_wp2_with fail
    refine (Hd.out _ (Ha.out.below Hb.out)).mono ?_
    rintro e w2 ⟨rfl, hb2⟩
    go_wp2
    go_ret
    exact ⟨rfl, Hb.out.trans (hb2.mono Hb.out.size)⟩
  · rw [decide_eq_false hM] at hc
    have hf : Mp.genusOf l = -1 := if_neg hM
    rw [hf]
    have Hc := Lib.hid hc
    clear hc hM hf ha
    go_enter Tryz.func49, Tryz.ntmps49
    go_wp2_with fail
    refine Hc.out.mono ?_
    rintro e w1 ⟨rfl, hb⟩
    go_wp2
    go_ret
    exact ⟨rfl, hb⟩

end Go.Proofs.YtpebgompfgkljaaGreat
