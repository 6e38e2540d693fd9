/-
  Maps behind a pointer: what such a pointer leads to; the walks of Clone, mapOf, and of the questions that a map answers. The walks of DualMap and MirrorMap, the program's and the model's. The walks of the cycles of a map, the program's and the model's. The walks of the parts of a map and of its genus, the program's and the model's. The walks of the genus of a map, the program's and the model's.
-/
import Derived.Test.YtamgimdjnmcpaaaGreatBase
import Derived.Test.YtamgimdjnmcpaaaGreatSlice
import Derived.Test.YtamgimdjnmcpaaaGreatInts
import Derived.Test.YtamgimdjnmcpaaaGreatGrid
import Derived.Test.YtamgimdjnmcpaaaGreatOwn
import Derived.Test.YtamgimdjnmcpaaaGreatAppend
import Derived.Test.YtamgimdjnmcpaaaGreatGridRows
import Derived.Test.YtamgimdjnmcpaaaGreatClass
import Derived.Test.YtamgimdjnmcpaaaGreatLab
import Derived.Test.YtamgimdjnmcpaaaGreatMap
import Derived.Test.YtamgimdjnmcpaaaGreatMapA
import Derived.Deep.QuietTactic
import Derived.BigQuiet
import Derived.StillTailTactics
import Derived.Test.YtamgimdjnmcpaaaGreatGridWalk
namespace Go.Proofs.YtamgimdjnmcpaaaGreat
open Go.RowKit

theorem ownRow_cell {w : World} {lo g cap n : Nat} {f : Nat → Nat} (h : w.ownsRow lo 3 1 (.slice (some ⟨g, 0, none⟩) n cap) n (intCells (Cls.row f n))) {k : Nat} (hk : k < n) : w.cell? ⟨g, k, none⟩ = some (.int .i64 ((f k : Nat) : Int)) := by
  have := own_cell h hk (Cls.row_len f n)
  rw [this]
  have e := Cls.row_get (c := f) hk
  rw [List.getElem?_eq_getElem (by rw [Cls.row_len]; exact hk)] at e
  rw [Option.some.inj e]
theorem ownRow_put {w : World} {lo g cap n : Nat} {f : Nat → Nat} (h : w.ownsRow lo 3 1 (.slice (some ⟨g, 0, none⟩) n cap) n (intCells (Cls.row f n))) {k : Nat} (b : Nat) (hk : k < n) :
    (w.setCell ⟨g, k, none⟩ (.int .i64 ((b : Nat) : Int))).ownsRow lo 3 1 (.slice (some ⟨g, 0, none⟩) n cap) n (intCells (Cls.row (Mp.upd f k b) n)) := by
  have := (h.stored k (.int .i64 ((b : Nat) : Int))).1
  rw [show (intCells (Cls.row f n)).set k (.int .i64 ((b : Nat) : Int)) = intCells ((Cls.row f n).set k ((b : Nat) : Int)) from by simp [intCells, List.map_set], Cls.row_link hk] at this
  exact this
theorem row_congr {f f' : Nat → Nat} {n : Nat} (h : ∀ k, k < n → f k = f' k) : Cls.row f n = Cls.row f' n := by
  unfold Cls.row
  exact List.map_congr_left fun k hk => by rw [h k (List.mem_range.1 hk)]
theorem MapAt.row {w : World} {lo g cap n : Nat} {f : Nat → Nat} (h : w.ownsRow lo 3 1 (.slice (some ⟨g, 0, none⟩) n cap) n (intCells (Cls.row f n))) : RowAt w (some ⟨g, 0, none⟩) (intCells (Cls.row f n)) := by
  obtain ⟨a, c, e, hr⟩ := own_row h (by rw [intCells_len, Cls.row_len])
  cases e; exact hr
theorem own_grown {w w' : World} {base n g : Nat} {e : TypeId} {v : Value} {xs : List Value} (h : w.ownsRow base e 1 v n xs) (hg : w.grownBy w' (some g)) (hne : ∀ k, v.ownBlock = some k → k ≠ g) : w'.ownsRow base e 1 v n xs := by
  obtain ⟨hx, h0 | ⟨b, cap, cur, rfl, hb, hh, h2⟩⟩ := h
  · exact ⟨hx, Or.inl h0⟩
  · refine ⟨hx, Or.inr ⟨b, cap, cur, rfl, hb, ?_, h2⟩⟩
    have hlt : b < w.heap.size := by
      rcases Nat.lt_or_ge b w.heap.size with hl | hl
      · exact hl
      · rw [Array.getElem?_eq_none hl] at hh; cases hh
    rw [hg.block b hlt (fun e => hne b rfl (Option.some.inj e)), hh]

set_option maxRecDepth 10000 in
set_option maxHeartbeats 1000000 in
theorem lib_Clone (a : Option Addr) (c : Nat) (l : List Int) (w : World) (ha : RowAt w a (intCells l)) (h0 : 0 < l.length) (hl : l.length ≤ 1000) :
    Calls Tryz.prog 97 #[.slice a l.length c] w fun e w' => (∃ g cap, e = .returned (.slice (some ⟨g, 0, none⟩) l.length cap) ∧ w'.ownsRow w.heap.size 3 1 (.slice (some ⟨g, 0, none⟩) l.length cap) l.length (intCells l) ∧ l.length ≤ cap ∧ cap ≤ maxLen) ∧ Below w.heap.size w w' := by
  obtain ⟨i0, hi0, hz0, hz1, hz2⟩ := info_int_parts
  obtain ⟨b, o, rfl, hbw, _⟩ := ha.at (i := 0) (by rw [intCells_len]; exact h0)
  have Hi0 := Lib.hid hi0; have Hz0 := Lib.hid hz0; have Hz1 := Lib.hid hz1; have Hz2 := Lib.hid hz2
  have hown : (w.alloc (.cells #[] 3)).ownsRow w.heap.size 3 1 (.slice (some ⟨w.heap.size, 0, none⟩) 0 0) 0 (intCells []) := own_made rfl
  have hb0 := (Below.refl w.heap.size w).alloc (Nat.le_refl _) (.cells #[] 3)
  have hr := ha.below hb0
  have h63 : 0 + l.length ≤ maxLen := by unfold maxLen; omega
  have hby : (0 + l.length) * 8 ≤ 140737488355328 := by omega
  have hbs : w.heap.size ≤ (w.alloc (.cells #[] 3)).heap.size := by simp
  have Hown := Lib.hid hown; have Hb0 := Lib.hid hb0; have Hr := Lib.hid hr
  have heq : ∀ W, (binOp .eql 30 (.slice (some ⟨b, o, none⟩) l.length c) (.slice none 0 0)).run Tryz.prog W = .ok (.bool false) W := fun W => Lib.run_eql_slice_nil W 30 3 _ _ _ _ _ Tryz.underlying30
  clear hown hb0 hr ha hi0 hz0 hz1 hz2
  go_enter Tryz.func97, Tryz.ntmps97
  go_wp2_with (at_builtin; refine append_row rfl (.tmp 5) (.tmp 6) 30 rfl w.heap.size 3 i0 _ 8 Tryz.underlying30 Hi0.out Hz0.out Hz1.out Hz2.out (by rfl) _ _ _ rfl Hown.out _ _ _ _ rfl Hr.out (by rw [intCells_len]) (intCells_one l) h63 hby hbs ?_; intro v1 w1 hown1 hg1)
  rw [Nat.zero_add] at hown1
  obtain ⟨g, cap, rfl, hc1, hc2⟩ := own_form hown1 h0
  have Hown1 := Lib.hid hown1
  have Hb := Lib.hid (Hb0.out.grown hg1 (by simp) (fun k hk => (Hown.out.lt k hk).1))
  clear hown1 hg1
  go_wp2
  go_ret
  exact ⟨⟨g, cap, rfl, Hown1.out, hc1, hc2⟩, Hb.out⟩


end Go.Proofs.YtamgimdjnmcpaaaGreat
namespace Go.Proofs.YtamgimdjnmcpaaaGreat
open Go.RowKit

theorem row_snoc (f : Nat → Nat) (i : Nat) : Cls.row f i ++ [((f i : Nat) : Int)] = Cls.row f (i + 1) := by
  unfold Cls.row; rw [List.range_succ, List.map_append]; rfl
/-- A row that a call has made. -/
theorem lab_gives {w w' : World} {g n : Nat} {f : Nat → Nat} (h : Lab w' g f n) (hg : w.heap.size ≤ g) (hn : n ≤ maxLen) (hb : Below w.heap.size w w') : Gives w (Cls.row f n) (.returned (.slice (some ⟨g, 0, none⟩) n n)) w' := by
  obtain ⟨all, h1, h2⟩ := h
  refine ⟨_, n, by rw [Cls.row_len], by rw [Cls.row_len]; exact Nat.le_refl _, hn, Or.inr ⟨g, 0, all, rfl, hg, h1, fun i v hv => ?_⟩, hb⟩
  have hi : i < n := by
    have := (List.getElem?_eq_some_iff.1 hv).1
    rwa [intCells_len, Cls.row_len] at this
  rw [Nat.zero_add, h2 i hi]
  simp [intCells, Cls.row_get hi] at hv
  rw [← hv]



theorem own_zeros (w : World) (n : Nat) (hn : n ≤ 1000) : (w.alloc (.cells (intCells (Cls.row (fun _ => 0) n)).toArray 3)).ownsRow w.heap.size 3 1 (.slice (some ⟨w.heap.size, 0, none⟩) n n) n (intCells (Cls.row (fun _ => 0) n)) := by
  refine ⟨by rw [intCells_len, Cls.row_len, Nat.mul_one], Or.inr ⟨w.heap.size, n, _, rfl, Nat.le_refl _, heap_alloc_new w _, Nat.le_refl _, by unfold maxLen; omega, by simp [intCells_len, Cls.row_len], ?_⟩⟩
  simp only [Nat.mul_one, List.toList_toArray]
  rw [List.take_of_length_le (by rw [intCells_len, Cls.row_len]; exact Nat.le_refl _)]

theorem give_next {w w1 w2 : World} {q g n cap : Nat} {f : Nat → Nat} (h : w2.ownsRow w1.heap.size 3 1 (.slice (some ⟨g, 0, none⟩) n cap) n (intCells (Cls.row f n))) (hb : Below w.heap.size w w1) (hb2 : Below w1.heap.size w1 w2) : Gives w (Cls.row f n) (.returned (.slice (some ⟨g, 0, none⟩) n cap)) w2 :=
  (own_gives h (Cls.row_len _ _) hb2).later hb

set_option maxRecDepth 10000 in
set_option maxHeartbeats 1000000 in
theorem spec_l6Inverse (a : Option Addr) (c : Nat) (l : List Int) (w : World) (ha : RowAt w a (intCells l)) (hM : Mp.IsM l) :
    Calls Tryz.prog 95 #[.slice a l.length c] w fun e w' => Gives w (Mp.mirror l) e w' := by
  have hn : l.length ≤ 24 := hM.2.1
  have hmk := mk_zeros l.length (by omega)
  have hst := Lab.of_blk (Blk.new w 3 (intCells (Cls.row (fun _ => 0) l.length)).toArray)
  have hb0 := (Below.refl w.heap.size w).alloc (Nat.le_refl _) (.cells (intCells (Cls.row (fun _ => 0) l.length)).toArray 3)
  have hgv := fun w' (h : Lab w' w.heap.size (Mp.invTo l l.length) l.length) (hb : Below w.heap.size w w') => lab_gives h (Nat.le_refl _) (by unfold maxLen; omega) hb
  generalize hN : w.heap.size = N at *
  have HN := Lib.hid hN
  have Hst := Lib.hid hst; have Hb0 := Lib.hid hb0; have Ha := Lib.hid ha; have HM := Lib.hid hM; have Hgv := Lib.hid hgv
  clear hst hb0 ha hM hgv
  go_enter Tryz.func95, Tryz.ntmps95
  go_wp2
  go_loopw [4] (fun iv wr => ∃ i : Nat, i ≤ l.length ∧ iv = .int .i64 i ∧ Hid (Below N w wr) ∧ Hid (Lab wr N (Mp.invTo l i) l.length)) (fun iv _ => l.length - (intOf iv).toNat)
  case atStart => exact ⟨0, by omega, rfl, Hb0, Hst⟩
  case round =>
    obtain ⟨i, hi, rfl, hb, hk⟩ := hrel
    by_cases hlt : i < l.length
    · have hx := Mp.at_get HM.out.2.2.2 hlt
      have hyl := Mp.at_lt HM.out.2.2.2 hlt
      obtain ⟨b, o, rfl, hbw, hcell⟩ := intCells_get? (Ha.out.below (by rw [HN.out]; exact hb.out)) hx
      have hdst := hk.out.cell hyl
      have hfz := hk.out.frozen (Mp.at_ l i)
      have hput := hk.out.put (b := i) hyl
      have hst := hb.out.setCell (p := ⟨N, Mp.at_ l i, none⟩) (Nat.le_refl _) (.int .i64 ((i : Nat) : Int))
      have Hnext : Hid (∀ k, (if k = Mp.at_ l i then i else Mp.invTo l i k) = Mp.invTo l (i + 1) k) := Lib.hid (fun k => rfl)
      generalize Mp.invTo l i (Mp.at_ l i) = z at hdst
      generalize Mp.at_ l i = y at *
      have Hput := Lib.hid hput; have Hst2 := Lib.hid hst
      clear hput hst hx
      go_wp2
      go_roundw
      case rel => exact ⟨i + 1, by omega, by go_num, Hst2, Lib.hid (Hput.out.congr fun k _ => Hnext.out k)⟩
      case measure => simp [intOf]; omega
    · obtain rfl : i = l.length := by omega
      go_wp2
      go_ret
      exact Hgv.out _ hk.out hb.out



end Go.Proofs.YtamgimdjnmcpaaaGreat
namespace Go.Proofs.YtamgimdjnmcpaaaGreat
open Go.RowKit

theorem Only.next {lo hi : Nat} {w w' w'' : World} (h : Only lo hi w w') (hb : Below w.heap.size w' w'') : Only lo hi w w'' :=
  ⟨hb.os.trans h.1, hb.tape.trans h.2.1, hb.output.trans h.2.2.1, Nat.le_trans h.size hb.size, fun k hk ho => (hb.block k hk).trans (h.2.2.2.2 k hk ho)⟩
theorem Only.set {G i : Nat} {w w' : World} {v : Value} (h : Only G (G + 1) w w') : Only G (G + 1) w (w'.setCell ⟨G, i, none⟩ v) :=
  ⟨h.1, h.2.1, h.2.2.1, by simpa [World.setCell] using h.size, fun k hk ho => (Below.heap_setCell w' ⟨G, i, none⟩ v k (by show k ≠ G; omega)).trans (h.2.2.2.2 k hk ho)⟩
theorem Only.belowFlg {G N : Nat} {w0 w w' : World} (h : Only G (G + 1) w w') (hb : Below N w0 w) (hG : N ≤ G) (hN : N ≤ w.heap.size) : Below N w0 w' :=
  hb.trans (h.below hG hN)
/-- What lies in other blocks than the flags. -/
theorem RowIn.noFlg {w w' : World} {lo hi G n : Nat} {t : TypeId} {a : Option Addr} {cs : List Value} {s : Nat → Bool} (h : RowIn w lo hi t a cs) (ho : Only G (G + 1) w w') (hf : Flg w G s n) (ht : t ≠ 4) : RowIn w' lo hi t a cs := by
  rcases h with h | ⟨g, o, all, rfl, h3, h4, hk, hc⟩
  · exact Or.inl h
  · refine Or.inr ⟨g, o, all, rfl, h3, h4, ho.block hk ?_, hc⟩
    obtain ⟨all', hk', _⟩ := hf
    have : g ≠ G := by
      rintro rfl
      unfold Blk at hk hk'
      rw [hk] at hk'
      injection hk' with hk'; injection hk' with _ e _
      exact ht e
    omega
theorem own_noFlg {w w' : World} {base n G m : Nat} {e : TypeId} {v : Value} {xs : List Value} {s : Nat → Bool} (h : w.ownsRow base e 1 v n xs) (ho : Only G (G + 1) w w') (hf : Flg w G s m) (ht : e ≠ 4) : w'.ownsRow base e 1 v n xs := by
  obtain ⟨hx, h0 | ⟨g, cap, cur, rfl, hg, hh, h2⟩⟩ := h
  · exact ⟨hx, Or.inl h0⟩
  · refine ⟨hx, Or.inr ⟨g, cap, cur, rfl, hg, ?_, h2⟩⟩
    have hlt : g < w.heap.size := Blk.lt hh
    obtain ⟨all', hk', _⟩ := hf
    have : g ≠ G := by
      rintro rfl
      unfold Blk at hk'
      rw [hh] at hk'
      injection hk' with hk'; injection hk' with _ e' _
      exact ht e'
    rw [ho.2.2.2.2 g hlt (by omega)]; exact hh
theorem Flg.offRow {w w' : World} {G m n base : Nat} {s : Nat → Bool} {e : TypeId} {v : Value} {xs : List Value} {o : Obj} (h : Flg w G s m) (ho : w.ownsRow base e 1 v n xs) (ht : e ≠ 4) (hg : (w.alloc o).grownBy w' v.ownBlock) : Flg w' G s m := by
  refine (h.alloc o).grown hg (fun e' => ?_)
  obtain ⟨cur, hcur⟩ := own_type (ho.alloc o) _ e'.symm
  obtain ⟨all, hall, _⟩ := h.alloc o
  unfold Blk at hall
  rw [hall] at hcur
  injection hcur with hcur; injection hcur with _ e2 _
  exact ht e2.symm
def vLen : Value → Nat
  | .slice _ n _ => n
  | _ => 0

namespace Mp
theorem natRows_len (C : List (List Nat)) : (natRows C).length = C.length := by simp [natRows]
theorem natRows_snoc (C : List (List Nat)) (c : List Nat) : natRows (C ++ [c]) = natRows C ++ [intsOf c] := by simp [natRows, intsOf]
theorem cycTo_skip {f : Nat → Nat} {n i : Nat} (h : (cycTo f n i).1 i = true) : cycTo f n (i + 1) = cycTo f n i := by
  rw [cycTo_succ]; unfold cycStep
  rw [if_pos (show cyc f (n + 1) (cycTo f n i).1 i = [] by unfold cyc; rw [h]; rfl)]
theorem cycTo_take {f : Nat → Nat} {n i : Nat} {c : List Nat} (h : (cycTo f n i).1 i = false) (hc : cyc f (n + 1) (cycTo f n i).1 i = c) : cycTo f n (i + 1) = (seen (cycTo f n i).1 c, (cycTo f n i).2 ++ [c]) ∧ c ≠ [] := by
  have hne : cyc f (n + 1) (cycTo f n i).1 i ≠ [] := by unfold cyc; rw [h]; simp
  rw [cycTo_succ]; unfold cycStep
  rw [if_neg hne, hc]
  exact ⟨rfl, by rw [← hc]; exact hne⟩
theorem cycTo_skip2 {f : Nat → Nat} {n i : Nat} (h : cyc f (n + 1) (cycTo f n i).1 i = []) : cycTo f n (i + 1) = cycTo f n i := by
  rw [cycTo_succ]; unfold cycStep; rw [if_pos h]
theorem cycTo_take2 {f : Nat → Nat} {n i : Nat} {c : List Nat} (hc : cyc f (n + 1) (cycTo f n i).1 i = c) (h : c ≠ []) : cycTo f n (i + 1) = (seen (cycTo f n i).1 c, (cycTo f n i).2 ++ [c]) := by
  rw [cycTo_succ]; unfold cycStep
  rw [if_neg (by rw [hc]; exact h), hc]
theorem cycTo_len (f : Nat → Nat) (n : Nat) : ∀ i, (cycTo f n i).2.length ≤ i
  | 0 => by rw [cycTo_zero]; exact Nat.le_refl _
  | i + 1 => by
    have := cycTo_len f n i
    rw [cycTo_succ]; unfold cycStep
    split
    · omega
    · simp; omega
theorem seen_put (s : Nat → Bool) (c : List Nat) (d k : Nat) : (if k = d then true else seen s c k) = seen s (c ++ [d]) k := by
  rw [seen_snoc]
  by_cases e : k = d
  · simp [e]
  · simp [e]
end Mp

/-- What the outer loop holds: the flags, and the rows. -/
def CycAt (N G : Nat) (wr : World) (f : Nat → Nat) (n i : Nat) (ov : Value) : Prop :=
  Flg wr G (Mp.cycTo f n i).1 n ∧ ∃ hs : List Hd, hs.map Hd.l = Mp.natRows (Mp.cycTo f n i).2 ∧ wr.ownsRow N 30 1 ov (Mp.cycTo f n i).2.length (hdCells hs) ∧ (∀ h ∈ hs, RowIn wr N wr.heap.size 3 h.a (intCells h.l)) ∧ Apts hs

set_option maxRecDepth 10000 in
set_option maxHeartbeats 4000000 in
theorem spec_l6CyclesP (a : Option Addr) (c : Nat) (l : List Int) (w : World) (ha : RowAt w a (intCells l)) (hP : Mp.IsP l) (hn : l.length ≤ 24) :
    Calls Tryz.prog 33 #[.slice a l.length c] w fun e w' => GivesRows w (Mp.cycles l) e w' := by
  obtain ⟨i0, hi0, hz0, hz1, hz2⟩ := info_int_parts
  obtain ⟨j0, hj0, hy0, hy1, hy2⟩ := info_ints_parts
  have hmk := mk_unseen l.length (by omega)
  have hfin : Mp.cycles l = Mp.natRows (Mp.cycTo (Mp.at_ l) l.length l.length).2 := rfl
  have hflt := fun d (hd : d < l.length) => Mp.at_lt hP hd
  have hread : ∀ d, d < l.length → ∃ b o, a = some ⟨b, o, none⟩ ∧ ∀ W, Below w.heap.size w W → W.cell? ⟨b, o + d, none⟩ = some (.int .i64 ((Mp.at_ l d : Nat) : Int)) := fun d hd => by
    obtain ⟨b, o, e, hb, hc⟩ := intCells_get? ha (Mp.at_get hP hd)
    exact ⟨b, o, e, fun W hW => by rw [hW.cell (p := ⟨b, o + d, none⟩) hb]; exact hc⟩
  have hst : CycAt w.heap.size (w.heap.size + 1) ((w.alloc (.cells #[] 30)).alloc (.cells (unseen l.length) 4)) (Mp.at_ l) l.length 0 (.slice (some ⟨w.heap.size, 0, none⟩) 0 0) := by
    refine ⟨?_, [], rfl, (made_rows (w := w) rfl).alloc _, fun _ h => (by cases h), Apts.nil⟩
    have := Flg.start (w.alloc (.cells #[] 30)) l.length
    rw [Mp.cycTo_zero]
    simpa using this
  have hb0 : Below w.heap.size w ((w.alloc (.cells #[] 30)).alloc (.cells (unseen l.length) 4)) := ((Below.refl _ _).alloc (Nat.le_refl _) _).alloc (by simp) _
  generalize Mp.cycles l = R at *
  generalize hF : Mp.at_ l = f at *
  generalize hN : w.heap.size = N at *
  have HN := Lib.hid hN
  have Hi0 := Lib.hid hi0; have Hz0 := Lib.hid hz0; have Hz1 := Lib.hid hz1; have Hz2 := Lib.hid hz2
  have Hj0 := Lib.hid hj0; have Hy0 := Lib.hid hy0; have Hy1 := Lib.hid hy1; have Hy2 := Lib.hid hy2
  have Hst := Lib.hid hst; have Hb0 := Lib.hid hb0; have Hfin := Lib.hid hfin; have Hread := Lib.hid hread; have Hflt := Lib.hid hflt
  clear hi0 hz0 hz1 hz2 hj0 hy0 hy1 hy2 hst hb0 hfin hP ha hread hflt hF
  go_enter Tryz.func33, Tryz.ntmps33
  go_wp2
  go_loopw [3, 5, 6, 7] (fun ov iv _ _ wr => ∃ i : Nat, i ≤ l.length ∧ iv = .int .i64 i ∧ Hid (Below N w wr) ∧ Hid (CycAt N (N + 1) wr f l.length i ov)) (fun _ iv _ _ _ => l.length - (intOf iv).toNat)
  case atStart => exact ⟨0, by omega, rfl, Hb0, Hst⟩
  case round =>
    obtain ⟨i, hi, rfl, hb, hk⟩ := hrel
    by_cases hlt : i < l.length
    · have hseen := hk.out.1.cell hlt
      have hNle : N ≤ wr.heap.size := by have := hb.out.size; rw [HN.out] at this; exact this
      by_cases hs : (Mp.cycTo f l.length i).1 i = true
      · rw [hs] at hseen
        have hsk := Mp.cycTo_skip hs
        have Hsk : Hid (CycAt N (N + 1) wr f l.length (i + 1) _) := Lib.hid (by unfold CycAt; rw [hsk]; exact hk.out)
        clear hs hsk
        go_wp2
        go_roundw
        case rel => exact ⟨i + 1, by omega, by go_num, hb, Hsk⟩
        case measure => simp [intOf]; omega
      · have hs : (Mp.cycTo f l.length i).1 i = false := by simpa using hs
        rw [hs] at hseen
        have htk := fun c (h : Mp.cyc f (l.length + 1) (Mp.cycTo f l.length i).1 i = c) => Mp.cycTo_take hs h
        have hlen := Mp.cycTo_len f l.length i
        have hkk := hk.out
        unfold CycAt at hkk
        have Hnx : Hid (∀ W v, (∃ c, Mp.cyc f (l.length + 1) (Mp.cycTo f l.length i).1 i = c ∧ Flg W (N + 1) (Mp.seen (Mp.cycTo f l.length i).1 c) l.length ∧ ∃ hs : List Hd, hs.map Hd.l = Mp.natRows ((Mp.cycTo f l.length i).2 ++ [c]) ∧ W.ownsRow N 30 1 v ((Mp.cycTo f l.length i).2.length + 1) (hdCells hs) ∧ (∀ h ∈ hs, RowIn W N W.heap.size 3 h.a (intCells h.l)) ∧ Apts hs) → CycAt N (N + 1) W f l.length (i + 1) v) := Lib.hid (by
          rintro W v ⟨c, hc, h1, hs', h2, h3, h4⟩
          unfold CycAt
          rw [(htk c hc).1]
          exact ⟨h1, hs', h2, by rw [List.length_append]; exact h3, h4⟩)
        clear htk hk hs
        generalize (Mp.cycTo f l.length i).1 = s at *
        generalize (Mp.cycTo f l.length i).2 = C at *
        obtain ⟨hflg, hs', hh1, hown, hin, hap⟩ := hkk
        obtain ⟨ova, ovc, rfl⟩ := own_len hown
        have hG : N + 1 < wr.heap.size := hflg.lt
        have hM2 : Hid ((wr.alloc (.cells #[] 3)).ownsRow wr.heap.size 3 1 (.slice (some ⟨wr.heap.size, 0, none⟩) 0 0) 0 (intCells [])) := Lib.hid (own_made rfl)
        have Hal : Hid (Only (N + 1) (N + 1 + 1) wr (wr.alloc (.cells #[] 3))) := Lib.hid (Only.of_below ((Below.refl _ _).alloc (Nat.le_refl _) _) _ _)
        have Hfa : Hid (Flg (wr.alloc (.cells #[] 3)) (N + 1) s l.length) := Lib.hid (hflg.alloc _)
        have Hflg := Lib.hid hflg; have Hh1 := Lib.hid hh1; have Hown := Lib.hid hown; have Hin := Lib.hid hin; have Hap := Lib.hid hap; have Hlen := Lib.hid hlen
        clear hflg hh1 hown hin hap hlen
        obtain ⟨wo, rfl⟩ : ∃ wo, wo = wr := ⟨_, rfl⟩
        go_wp2
        go_loopw [6, 7] (fun cv dv wr => ∃ (cc : List Nat) (d : Nat), dv = .int .i64 d ∧ Hid (Mp.Mid f l.length s i cc d) ∧ Hid (Only (N + 1) (N + 1 + 1) wo wr) ∧ Hid (Flg wr (N + 1) (Mp.seen s cc) l.length) ∧ Hid (wr.ownsRow wo.heap.size 3 1 cv cc.length (intCells (intsOf cc)))) (fun cv _ _ => l.length + 1 - vLen cv)
        case atStart => exact ⟨[], i, rfl, Lib.hid (Mp.Mid.start f s hlt), Hal, Lib.hid (by rw [Mp.seen_nil]; exact Hfa.out), hM2⟩
        case round =>
          obtain ⟨cc, d, rfl, hmid, honly, hfl, hcw⟩ := hrel
          have hd : d < l.length := hmid.out.dlt
          have hcell := hfl.out.cell hd
          have hfz := hfl.out.frozen d
          obtain ⟨ca, ccap, rfl⟩ := own_len hcw.out
          by_cases hsn : Mp.seen s cc d = true
          · rw [hsn] at hcell
            have hcyc := hmid.out.stop hsn
            have hcl := hmid.out.len
            obtain ⟨xa, xc, e, hlc, hfr⟩ := own_fresh hcw.out (by rw [intCells_len, intsOf_len])
            cases e
            have hown2 := own_noFlg Hown.out honly.out Hflg.out (by decide)
            have hin2 := fun h hh => (Hin.out h hh).noFlg honly.out Hflg.out (by decide)
            have hMle := honly.out.size
            have hbB := honly.out.belowFlg hb.out (Nat.le_succ N) hNle
            have hm1 : C.length + 1 ≤ maxLen := by have := Hlen.out; unfold maxLen; omega
            have hm2 : (C.length + 1) * 24 ≤ 140737488355328 := by have := Hlen.out; omega
            have hN2 : N ≤ wr.heap.size := by omega
            have Hcyc := Lib.hid hcyc; have Hfr := Lib.hid hfr; have Hin2 := Lib.hid hin2; have HbB := Lib.hid hbB; have Hlc := Lib.hid hlc
            clear hcyc hfr hin2 hbB hsn hlc
            go_wp2_with (at_builtin; refine append_one rfl (.tmp 40) (.tmp 42) 24 rfl N 30 j0 _ 24 Tryz.underlying24 Hj0.out Hy0.out Hy1.out Hy2.out (by rfl) _ _ _ rfl hown2 (by rfl) _ rfl hm1 hm2 hN2 ?_; intro v1 w1 hown1 hg1 _)
            go_roundw
            case rel =>
              have hst := grid_more (c := ccap) Hin2.out Hap.out hown2 hNle hMle Hfr.out hg1 (by rw [intsOf_len]; exact Hlc.out)
              refine ⟨i + 1, by omega, by go_num, Lib.hid (Below.grown (HbB.out.alloc hN2 _) hg1 (by simp; omega) (fun k hk => (hown2.lt k hk).1)), Lib.hid (Hnx.out _ _ ⟨cc, Hcyc.out, ?_, hs' ++ [⟨ca, ccap, intsOf cc⟩], ?_, ?_, hst⟩)⟩
              · exact hfl.out.offRow hown2 (by decide) hg1
              · rw [List.map_append, Hh1.out, Mp.natRows_snoc]; rfl
              · rw [← hdCells_snoc]; unfold Hd.val; rw [intsOf_len]; exact hown1
            case measure => simp [intOf]; omega
          · have hsn : Mp.seen s cc d = false := by simpa using hsn
            rw [hsn] at hcell
            have hstep := hmid.out.step hsn (Hflt.out d hd)
            have hput := (hfl.out.put true hd).congr fun k _ => Mp.seen_put s cc d k
            have ho2 := honly.out.set (i := d) (v := .bool true)
            have hcl := hmid.out.len
            have hMle := honly.out.size
            have hcw2 : (wr.setCell ⟨N + 1, d, none⟩ (.bool true)).ownsRow wo.heap.size 3 1 (.slice ca cc.length ccap) cc.length (intCells (intsOf cc)) :=
              own_grown hcw.out (g := N + 1) (only_setCell (World.grownBy.refl _ _) (Or.inl rfl) _) (fun k hk => by have := (hcw.out.lt k hk).1; omega)
            have hsz : (wr.setCell ⟨N + 1, d, none⟩ (.bool true)).heap.size = wr.heap.size := by simp [World.setCell]
            have hbs : wo.heap.size ≤ (wr.setCell ⟨N + 1, d, none⟩ (.bool true)).heap.size := by rw [hsz]; exact hMle
            have hm1 : cc.length + 1 ≤ maxLen := by unfold maxLen; omega
            have hm2 : (cc.length + 1) * 8 ≤ 140737488355328 := by omega
            obtain ⟨b, o, rfl, hrd⟩ := Hread.out d hd
            have Hrd := Lib.hid hrd; have Hstep := Lib.hid hstep; have Hput := Lib.hid hput; have Ho2 := Lib.hid ho2
            have hnext : ∀ (v1 : Value) (w3 : World), ((wr.setCell ⟨N + 1, d, none⟩ (.bool true)).alloc (.cells #[.int .i64 (d : Int)] 3)).grownBy w3 (Value.slice ca cc.length ccap).ownBlock → Only (N + 1) (N + 1 + 1) wo w3 := fun v1 w3 hg => by
              refine Ho2.out.next ?_
              have h1 : Below wo.heap.size (wr.setCell ⟨N + 1, d, none⟩ (.bool true)) ((wr.setCell ⟨N + 1, d, none⟩ (.bool true)).alloc (.cells #[.int .i64 (d : Int)] 3)) := (Below.refl _ _).alloc hbs _
              exact h1.grown hg (by simp; omega) (fun k hk => (hcw.out.lt k hk).1)
            have Hnext := Lib.hid hnext
            clear hrd hstep hput ho2 hsn hnext
            go_wp2_with (at_builtin; refine append_one_at _ hsz rfl (.tmp 36) (.tmp 38) 30 rfl wo.heap.size 3 i0 _ 8 Tryz.underlying30 Hi0.out Hz0.out Hz1.out Hz2.out (by rfl) _ _ _ rfl hcw2 (by rfl) _ rfl hm1 hm2 hbs ?_; intro v1 w3 hown1 hg1 _; have hrd := Hrd.out w3 ((Hnext.out v1 w3 hg1).belowFlg hb.out (Nat.le_succ N) hNle))
            go_roundw
            case rel =>
              refine ⟨cc ++ [d], f d, rfl, Hstep, Lib.hid (Hnext.out v1 _ hg1), Lib.hid ?_, Lib.hid ?_⟩
              · refine (Hput.out.alloc _).grown hg1 (fun e => ?_)
                have := (hcw.out.lt _ e.symm).1
                omega
              · rw [List.length_append, intsOf_snoc, ← intCells_snoc]; exact hown1
            case measure =>
              obtain ⟨xa, xc, e⟩ := own_len hown1
              subst e
              simp [vLen]; omega
    · obtain rfl : i = l.length := by omega
      obtain ⟨hs', hh1, hown, hin, hap⟩ := hk.out.2
      obtain ⟨ga, gc, rfl, hgc, hgm, hgrid⟩ := grid_done hown (by have := congrArg List.length hh1; rw [List.length_map, Mp.natRows_len] at this; exact this) hin hap
      rw [hh1] at hgrid
      have Hgrid := Lib.hid hgrid
      clear hh1 hown hin hap hgrid hk
      go_wp2
      go_ret
      rw [Hfin.out]
      exact ⟨ga, gc, by rw [Mp.natRows_len]; rfl, by rw [Mp.natRows_len]; exact hgc, hgm, by rw [HN.out]; exact Hgrid.out, by rw [HN.out]; exact hb.out⟩
theorem spec_l6Cycles (a : Option Addr) (c : Nat) (l : List Int) (w : World) (ha : RowAt w a (intCells l)) (hM : Mp.IsM l) :
    Calls Tryz.prog 33 #[.slice a l.length c] w fun e w' => GivesRows w (Mp.cycles l) e w' := spec_l6CyclesP a c l w ha hM.2.2.2 hM.2.1





namespace Mp
theorem cycs_sum {f : Nat → Nat} {n : Nat} (hf : ∀ d, d < n → f d < n) : ∀ i, i ≤ n → (∀ c ∈ (cycTo f n i).2, c.Nodup ∧ ∀ x ∈ c, x < n)
  | 0, _ => by rw [cycTo_zero]; intro c hc; cases hc
  | i + 1, hi => by
    intro c hc
    have ih := cycs_sum hf i (by omega)
    rw [cycTo_succ] at hc; unfold cycStep at hc
    split at hc
    · exact ih c hc
    · simp only [List.mem_append, List.mem_singleton] at hc
      rcases hc with hc | rfl
      · exact ih c hc
      · -- the walk's own facts
        have key : ∀ (m : Nat) {cc : List Nat} {d : Nat}, n + 1 - cc.length ≤ m → Mid f n (cycTo f n i).1 i cc d → ∃ c d, Mid f n (cycTo f n i).1 i c d ∧ seen (cycTo f n i).1 c d = true := by
          intro m
          induction m with
          | zero => intro cc d hm h; have := h.len; omega
          | succ m ih2 =>
            intro cc d hm h
            by_cases hd : seen (cycTo f n i).1 cc d = true
            · exact ⟨cc, d, h, hd⟩
            · exact ih2 (by have := h.len; rw [List.length_append, List.length_singleton]; omega) (h.step (by simpa using hd) (hf _ h.dlt))
        obtain ⟨c, d, h, hd⟩ := key (n + 1) (cc := []) (d := i) (by simp) (Mid.start f _ (by omega))
        rw [h.stop hd]
        exact ⟨h.nodup, h.lt⟩
theorem natRows_tot {f : Nat → Nat} {n : Nat} (hf : ∀ d, d < n → f d < n) (hn : n ≤ 24) : tot (natRows (cycTo f n n).2) ≤ 1000000 := by
  have h1 := cycs_sum hf n (Nat.le_refl _)
  have h2 := cycTo_len f n n
  have h3 : ∀ L : List (List Nat), (∀ c ∈ L, c.length ≤ 24) → sumLen (natRows L) ≤ 24 * L.length := by
    intro L
    induction L with
    | nil => intro _; simp [sumLen, natRows]
    | cons c t ih =>
      intro h
      have a := h c (List.mem_cons_self ..)
      have b := ih fun x hx => h x (List.mem_cons_of_mem _ hx)
      unfold sumLen natRows at b ⊢
      simp only [List.map_cons, List.sum_cons, List.length_map, List.length_cons] at b ⊢
      omega
  have := h3 _ fun c hc => Nat.le_trans (nodup_len (h1 c hc).1 (h1 c hc).2) hn
  unfold tot
  rw [natRows_len]; omega
theorem cyclesOf_tot (l : List Int) : tot (cyclesOf l) ≤ 1000000 := by
  unfold cyclesOf; split
  · rename_i h; exact natRows_tot (fun d hd => at_lt h.2.2.2 hd) h.2.1
  · simp [tot, sumLen]
theorem facesOf_tot (l : List Int) : tot (facesOf l) ≤ 1000000 := by
  unfold facesOf; split
  · rename_i h; exact natRows_tot (fun d hd => at_lt (dual_isM h).2.2.2 hd) (dual_isM h).2.1
  · simp [tot, sumLen]
end Mp
end Go.Proofs.YtamgimdjnmcpaaaGreat
namespace Go.Proofs.YtamgimdjnmcpaaaGreat
open Go.RowKit

theorem ownRow_lab {w : World} {lo g cap n : Nat} {f : Nat → Nat} (h : w.ownsRow lo 3 1 (.slice (some ⟨g, 0, none⟩) n cap) n (intCells (Cls.row f n))) : Lab w g f n := by
  rcases h.2 with ⟨e, _⟩ | ⟨g', cap', cur, e, _, hh, _⟩
  · cases e
  · cases e
    refine ⟨cur, hh, fun k hk => ?_⟩
    have h1 := ownRow_cell h hk
    have h2 : Blk w g 3 cur := hh
    rw [h2.cell k] at h1; exact h1
theorem Lab.only {w w' : World} {g n : Nat} {u : Nat → Nat} (h : Lab w g u n) (hb : w.grownBy w' (some g)) {k m : Nat} {v : Nat → Nat} (hk : Lab w k v m) (hne : k ≠ g) : Lab w' k v m := by
  obtain ⟨all, h1, h2⟩ := hk
  exact ⟨all, h1.grown hb (fun e => hne (Option.some.inj e)), h2⟩
namespace Mp
theorem ring_snoc1 (l : List Int) (i : Nat) : Cls.merge (Cls.merge (Cls.mergeAll (pairsTo l i)) (i, at_ l i)) (i, mate i) = Cls.mergeAll (pairsTo l (i + 1)) := by
  rw [pairsTo_succ, Cls.mergeAll_snoc, Cls.mergeAll_snoc]
end Mp



end Go.Proofs.YtamgimdjnmcpaaaGreat
namespace Go.Proofs.YtamgimdjnmcpaaaGreat
open Go.RowKit

namespace Mp
theorem cyc_congr {f g : Nat → Nat} {n : Nat} (h : ∀ d, d < n → g d = f d) (hf : ∀ d, d < n → f d < n) : ∀ k s d, d < n → cyc g k s d = cyc f k s d
  | 0, _, _, _ => rfl
  | k + 1, s, d, hd => by
    unfold cyc
    rw [h d hd, cyc_congr h hf k _ _ (hf d hd)]
theorem cycTo_congr {f g : Nat → Nat} {n : Nat} (h : ∀ d, d < n → g d = f d) (hf : ∀ d, d < n → f d < n) : ∀ i, i ≤ n → cycTo g n i = cycTo f n i
  | 0, _ => rfl
  | i + 1, hi => by
    rw [cycTo_succ, cycTo_succ, cycTo_congr h hf i (by omega)]
    unfold cycStep
    rw [cyc_congr h hf _ _ _ (by omega)]
theorem cycs_dual {l : List Int} (h : IsM l) : cycs (dual l) = (cycTo (fun d => at_ l (mate d)) l.length l.length).2 := by
  unfold cycs
  rw [dual_len, cycTo_congr (f := fun d => at_ l (mate d)) (g := at_ (dual l)) (fun d hd => at_of_row hd) (fun d hd => at_lt h.2.2.2 (mate_lt h.2.2.1 hd)) _ (Nat.le_refl _)]
theorem cycs_le {l : List Int} : (cycs l).length ≤ l.length := cycTo_len _ _ _
theorem parts_le {l : List Int} : parts l ≤ l.length := by
  unfold parts
  have := Cls.tally_le (ring l) (List.range l.length)
  rwa [List.length_range] at this
theorem tdiv2 (x : Int) : -(x.natAbs : Int) ≤ x.tdiv 2 ∧ x.tdiv 2 ≤ (x.natAbs : Int) := by
  cases x with
  | ofNat m =>
    have : (Int.ofNat m).tdiv 2 = ((m / 2 : Nat) : Int) := rfl
    rw [this, show (Int.ofNat m).natAbs = m from rfl]; omega
  | negSucc m =>
    have : (Int.negSucc m).tdiv 2 = -(((m + 1) / 2 : Nat) : Int) := rfl
    rw [this, show (Int.negSucc m).natAbs = m + 1 from rfl]; omega
end Mp



end Go.Proofs.YtamgimdjnmcpaaaGreat
