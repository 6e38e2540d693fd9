/-
  What a rotation is handed to counts its genus: the walk of GenusRow's own function; darts laid behind others and taken out, told by the row's block.
-/
import Derived.Test.YtpgdmbolckogcaaBase
import Derived.Test.YtpgdmbolckogcaaSlice
import Derived.Test.YtpgdmbolckogcaaIntRow
import Derived.Test.YtpgdmbolckogcaaInts
import Derived.Test.YtpgdmbolckogcaaOwn
import Derived.Test.YtpgdmbolckogcaaGrid
import Derived.Test.YtpgdmbolckogcaaGridRows
import Derived.Test.YtpgdmbolckogcaaClass
import Derived.Test.YtpgdmbolckogcaaLab
import Derived.Test.YtpgdmbolckogcaaMap
import Derived.Test.YtpgdmbolckogcaaMapB
import Derived.Test.YtpgdmbolckogcaaMapF
import Derived.Test.YtpgdmbolckogcaaPutBehind
import Derived.Test.YtpgdmbolckogcaaMapI
import Derived.Test.YtpgdmbolckogcaaMapTopo3
import Derived.Test.YtpgdmbolckogcaaGraph
import Derived.Test.YtpgdmbolckogcaaGraphRot
import Derived.Test.YtpgdmbolckogcaaGraphEn
import Derived.Test.YtpgdmbolckogcaaGraphE
import Derived.StillTailTactics
import Derived.Deep.QuietTactic
import Derived.BigQuiet
namespace Go.Proofs.Ytpgdmbolckogcaa
open Go.RowKit

/-- A map behind the pointer p, in the block g. -/
def MapG (w : World) (lo p g cap : Nat) (f : Nat → Nat) (n : Nat) : Prop :=
  Blk w p 45 #[.slice (some ⟨g, 0, none⟩) n cap] ∧ w.ownsRow lo 3 1 (.slice (some ⟨g, 0, none⟩) n cap) n (intCells (Cls.row f n)) ∧ lo ≤ p ∧ n ≤ cap ∧ cap ≤ maxLen
theorem MapG.map {w : World} {lo p g cap n : Nat} {f : Nat → Nat} (h : MapG w lo p g cap f n) : MapAt w lo p f n := ⟨g, cap, h⟩
theorem MapG.open {w : World} {lo p g cap n : Nat} {f : Nat → Nat} (h : MapG w lo p g cap f n) : w.cell? ⟨p, 0, none⟩ = some (.slice (some ⟨g, 0, none⟩) n cap) ∧ p ≠ g ∧ lo ≤ g ∧ g < w.heap.size ∧ RowAt w (some ⟨g, 0, none⟩) (intCells (Cls.row f n)) := by
  obtain ⟨h1, h2, h3, h4, h5⟩ := h
  have := h2.lt g rfl
  exact ⟨h1.cell 0, MapAt.apart h1 h2, this.1, this.2, MapAt.row h2⟩
theorem MapG.put {w : World} {lo p g cap n k : Nat} {f : Nat → Nat} (h : MapG w lo p g cap f n) (b : Nat) (hk : k < n) : MapG (w.setCell ⟨g, k, none⟩ (.int .i64 ((b : Nat) : Int))) lo p g cap (Mp.upd f k b) n := by
  obtain ⟨h1, h2, h3, h4, h5⟩ := h
  exact ⟨h1.far (MapAt.apart h1 h2) _, ownRow_put h2 b hk, h3, h4, h5⟩
theorem MapG.congr {w : World} {lo p g cap n : Nat} {f f' : Nat → Nat} (h : MapG w lo p g cap f n) (he : ∀ k, k < n → f k = f' k) : MapG w lo p g cap f' n := by
  unfold MapG at h ⊢
  rw [row_congr he] at h; exact h
theorem MapG.below {w w' : World} {lo p g cap n : Nat} {f : Nat → Nat} (h : MapG w lo p g cap f n) (hb : Below w.heap.size w w') : MapG w' lo p g cap f n := by
  obtain ⟨h1, h2, h3⟩ := h
  exact ⟨h1.below hb h1.lt, own_keep h2 hb (fun k hk => (h2.lt k hk).2), h3⟩
theorem MapG.drew {w : World} {lo p g cap n : Nat} {f : Nat → Nat} (h : MapG w lo p g cap f n) : MapG w.drew lo p g cap f n := h

set_option maxRecDepth 10000 in
set_option maxHeartbeats 2000000 in
theorem impl_putBehind_at (lo p g cap n : Nat) (f : Nat → Nat) (d b : Nat) (zd zb : Int) (hzd : zd = ((d : Nat) : Int)) (hzb : zb = ((b : Nat) : Int)) (w : World) (h : MapG w lo p g cap f n) (hd : d < n) (hb : b < n) (hn : n ≤ 1000) :
    Calls Try.prog 47 #[.pointer (some ⟨p, 0, none⟩), .int .i64 zd, .int .i64 zb] w fun e w' => e = .returned (.tuple #[]) ∧ MapG w' lo p g cap (Mp.behind f d b) n ∧ w.grownBy w' (some g) := by
  subst hzd; subst hzb
  obtain ⟨hcell, hpg, hlog, hg, hrd0⟩ := h.open
  have hrb := ownRow_cell h.2.1 hb
  have hrd := ownRow_cell h.2.1 hd
  have hfz := h.2.1.frozenAt d
  have m1 := h.put (f b) hd
  obtain ⟨hcell1, _⟩ := m1.open
  have hrb1 := ownRow_cell m1.2.1 hb
  have hfz1 := m1.2.1.frozenAt b
  have m2 := m1.put d hb
  have b2 : w.grownBy ((w.setCell ⟨g, d, none⟩ (.int .i64 ((f b : Nat) : Int))).setCell ⟨g, b, none⟩ (.int .i64 ((d : Nat) : Int))) (some g) := only_setCell (g := g) (only_setCell (g := g) (World.grownBy.refl _ _) (Or.inl rfl) _) (Or.inl rfl) _
  have h0d : (0 : Int) ≤ (d : Int) := by omega
  have h1d : (d : Int) < (n : Int) := by omega
  have h0b : (0 : Int) ≤ (b : Int) := by omega
  have h1b : (b : Int) < (n : Int) := by omega
  have M2 := Lib.hid m2; have B2 := Lib.hid b2
  have hM : Mp.upd (Mp.upd f d (f b)) b d = Mp.behind f d b := rfl
  rw [hM] at M2
  clear m2 b2 m1 h hM hrd0
  generalize Mp.upd f d (f b) b = z1 at hrb1
  generalize Mp.behind f d b = ff at *
  generalize f b = fb at *
  generalize f d = fd at *
  go_enter Try.func47, Try.ntmps47
  go_wp2
  go_still_tail 13, (by kernel_rfl)
  change wpList _ _ _ _ _ w.drew
  go_wp2
  exact bodyPost_end (v := .tuple #[]) (by first | kernel_rfl | simp [results, Try.f47]) rfl ⟨rfl, M2.out.drew, grown_drew1 B2.out⟩

set_option maxRecDepth 10000 in
set_option maxHeartbeats 2000000 in
theorem impl_takeOut_at (lo p g cap n : Nat) (f : Nat → Nat) (d q : Nat) (zd : Int) (hzd : zd = ((d : Nat) : Int)) (w : World) (h : MapG w lo p g cap f n) (hd : d < n) (hq : q < n) (hfq : f q = d) (hone : ∀ j, j < n → f j = d → j = q) (hn : n ≤ 1000) :
    Calls Try.prog 61 #[.pointer (some ⟨p, 0, none⟩), .int .i64 zd] w fun e w' => e = .returned (.tuple #[]) ∧ MapG w' lo p g cap (Mp.swp f d q) n ∧ w.grownBy w' (some g) := by
  subst hzd
  obtain ⟨hcell, hpg, hlog, hg, hrd0⟩ := h.open
  have hidx := lib_IndexAt (some ⟨g, 0, none⟩) cap n q f d (d : Int) rfl w hrd0 hq hfq hone hn
  have hrd := ownRow_cell h.2.1 hd
  have hrq := ownRow_cell h.2.1 hq
  have hfz := h.2.1.frozenAt q
  have m1 := h.put (f d) hq
  obtain ⟨hcell1, _⟩ := m1.open
  have hrd1 := ownRow_cell m1.2.1 hd
  have hfz1 := m1.2.1.frozenAt d
  have m2 := (m1.put d hd).congr fun k _ => Mp.out_swp hfq k
  have b2 : w.grownBy ((w.setCell ⟨g, q, none⟩ (.int .i64 ((f d : Nat) : Int))).setCell ⟨g, d, none⟩ (.int .i64 ((d : Nat) : Int))) (some g) := only_setCell (g := g) (only_setCell (g := g) (World.grownBy.refl _ _) (Or.inl rfl) _) (Or.inl rfl) _
  have h0d : (0 : Int) ≤ (d : Int) := by omega
  have h1d : (d : Int) < (n : Int) := by omega
  have h0b : (0 : Int) ≤ (q : Int) := by omega
  have h1b : (q : Int) < (n : Int) := by omega
  have M2 := Lib.hid m2; have B2 := Lib.hid b2; have Hidx := Lib.hid hidx
  clear m2 b2 m1 h hidx hone hfq hrd0
  generalize Mp.upd f q (f d) d = z1 at hrd1
  generalize Mp.swp f d q = ff at *
  generalize f d = fd at *
  generalize f q = fq at *
  go_enter Try.func61, Try.ntmps61
  go_wp2_with fail
  refine Hidx.out.mono ?_
  rintro e w1 ⟨rfl, hw⟩
  rw [hw]; clear hw
  go_wp2
  go_still_tail 13, (by kernel_rfl)
  change wpList _ _ _ _ _ w.drew
  go_wp2
  exact bodyPost_end (v := .tuple #[]) (by first | kernel_rfl | simp [results, Try.f61]) rfl ⟨rfl, M2.out.drew, grown_drew1 B2.out⟩

theorem Blk.ne {w : World} {a b : Nat} {t t' : TypeId} {cs cs' : Array Value} (h : Blk w a t cs) (h' : Blk w b t' cs') (ht : t ≠ t') : a ≠ b := by
  rintro rfl
  unfold Blk at h h'
  rw [h] at h'
  injection h' with h'; injection h' with _ h' _
  exact ht h'
theorem Blk.off_own {w : World} {a base n : Nat} {t e : TypeId} {cs : Array Value} {v : Value} {xs : List Value} (h : Blk w a t cs) (h' : w.ownsRow base e 1 v n xs) (ht : t ≠ e) : v.ownBlock ≠ some a := by
  intro hk
  obtain ⟨cur, hc⟩ := own_type h' a hk
  exact Blk.ne h (show Blk w a e cur from hc) ht rfl
/-- Nothing is written but into the block B, the row's block r, and new ones. -/
def Keep2 (B : Nat) (r : Option Nat) (w w' : World) : Prop :=
  w'.os = w.os ∧ w'.tape = w.tape ∧ w'.output = w.output ∧ w.heap.size ≤ w'.heap.size ∧ ∀ k, k < w.heap.size → k ≠ B → some k ≠ r → w'.heap[k]? = w.heap[k]?
theorem Keep2.refl (B : Nat) (r : Option Nat) (w : World) : Keep2 B r w w := ⟨rfl, rfl, rfl, Nat.le_refl _, fun _ _ _ _ => rfl⟩
theorem Keep2.of_below {B : Nat} {r : Option Nat} {w w' : World} (h : Below w.heap.size w w') : Keep2 B r w w' := ⟨h.os, h.tape, h.output, h.size, fun k hk _ _ => h.block k hk⟩
theorem Keep2.below {B N : Nat} {r : Option Nat} {w0 w w' : World} (h : Keep2 B r w w') (hb : Below N w0 w) (hB : N ≤ B) (hr : ∀ k, r = some k → N ≤ k) (hN : N ≤ w.heap.size) : Below N w0 w' :=
  ⟨h.1.trans hb.os, h.2.1.trans hb.tape, h.2.2.1.trans hb.output, Nat.le_trans hb.size h.2.2.2.1, fun k hk => (h.2.2.2.2 k (by omega) (by omega) (fun e => by have := hr k e.symm; omega)).trans (hb.block k hk)⟩
theorem Keep2.blk {B g : Nat} {r : Option Nat} {w w' : World} {t : TypeId} {cs : Array Value} (h : Keep2 B r w w') (hk : Blk w g t cs) (h1 : g ≠ B) (h2 : r ≠ some g) : Blk w' g t cs := (h.2.2.2.2 g hk.lt h1 (fun e => h2 e.symm)).trans hk
/-- A row of numbers in a box B: where it lies, and what was written. -/
def BoxRow (w0 : World) (B lo : Nat) (r0 : Option Nat) (w : World) (rv : Value) (R : List Nat) : Prop :=
  Blk w B 27 #[rv] ∧ w.ownsRow lo 3 1 rv R.length (intCells (intsOf R)) ∧ (rv.ownBlock = r0 ∨ ∀ k, rv.ownBlock = some k → w0.heap.size ≤ k) ∧ Keep2 B r0 w0 w
theorem BoxRow.below {w0 w w' : World} {B lo : Nat} {r0 : Option Nat} {rv : Value} {R : List Nat} (h : BoxRow w0 B lo r0 w rv R) (hb : Below w.heap.size w w') : BoxRow w0 B lo r0 w' rv R := by
  obtain ⟨h1, h2, h3, h4⟩ := h
  refine ⟨h1.below hb h1.lt, own_keep h2 hb (fun k hk => (h2.lt k hk).2), h3, hb.os.trans h4.1, hb.tape.trans h4.2.1, hb.output.trans h4.2.2.1, Nat.le_trans h4.2.2.2.1 hb.size, fun k hk k1 k2 => ?_⟩
  rw [hb.block k (Nat.lt_of_lt_of_le hk h4.2.2.2.1)]; exact h4.2.2.2.2 k hk k1 k2
theorem BoxRow.other {w0 w : World} {B lo k : Nat} {r0 : Option Nat} {rv : Value} {R : List Nat} (h : BoxRow w0 B lo r0 w rv R) (hk : k < w0.heap.size) (hr : some k ≠ r0) : rv.ownBlock ≠ some k := by
  rcases h.2.2.1 with e | e
  · rw [e]; exact fun h => hr h.symm
  · intro h2; have := e k h2; omega
/-- One more number. -/
theorem BoxRow.more {w0 w w3 : World} {B lo : Nat} {r0 : Option Nat} {rv v3 : Value} {R : List Nat} {x : Nat} {o : Obj} (h : BoxRow w0 B lo r0 w rv R)
    (hown : w3.ownsRow lo 3 1 v3 (R.length + 1) (intCells (intsOf R) ++ [.int .i64 (x : Int)])) (hg : (w.alloc o).grownBy w3 rv.ownBlock) (hn : v3.ownBlock = rv.ownBlock ∨ v3.ownBlock = some (w.alloc o).heap.size) :
    w3.cell? ⟨B, 0, none⟩ = some rv ∧ w3.frozen? ⟨B, 0, none⟩ = false ∧ BoxRow w0 B lo r0 (w3.setCell ⟨B, 0, none⟩ v3) v3 (R ++ [x]) := by
  obtain ⟨h1, h2, h3, h4⟩ := h
  have hB : rv.ownBlock ≠ some B := h1.off_own h2 (by decide)
  have k1 : Blk w3 B 27 #[rv] := (h1.alloc o).grown hg (fun e => hB e.symm)
  have hB3 : v3.ownBlock ≠ some B := k1.off_own hown (by decide)
  refine ⟨k1.cell 0, k1.frozen 0, k1.put 0 v3, ?_, ?_, ?_⟩
  · rw [List.length_append, intsOf_snoc, ← intCells_snoc]
    exact own_grown hown (only_setCell (World.grownBy.refl _ _) (Or.inl rfl) _) (fun k hk e => hB3 (by rw [hk, e]))
  · rcases hn with e | e
    · rw [e]; exact h3
    · right; intro k hk; rw [e] at hk; cases hk
      have := h4.2.2.2.1
      have hs : (w.alloc o).heap.size = w.heap.size + 1 := by simp
      omega
  · refine ⟨hg.os.trans h4.1, hg.tape.trans h4.2.1, hg.output.trans h4.2.2.1, ?_, fun k hk kB kr => ?_⟩
    · have := h4.2.2.2.1; have := hg.size
      have hs : (w.alloc o).heap.size = w.heap.size + 1 := by simp
      have hs2 : (w3.setCell ⟨B, 0, none⟩ v3).heap.size = w3.heap.size := by simp [World.setCell]
      omega
    · have hk1 : k < w.heap.size := Nat.lt_of_lt_of_le hk h4.2.2.2.1
      have hne : some k ≠ rv.ownBlock := by
        rcases h3 with e | e
        · rw [e]; exact kr
        · intro h; have := e k h.symm; omega
      have e1 : (w3.setCell ⟨B, 0, none⟩ v3).heap[k]? = w3.heap[k]? := Below.heap_setCell w3 ⟨B, 0, none⟩ v3 k kB
      rw [e1, hg.block k (by simp; omega) hne, Below.heap_alloc w o k hk1]
      exact h4.2.2.2.2 k hk kB kr
/-- One number is raised. -/
theorem BoxRow.set {w0 w : World} {B lo g cap i x : Nat} {r0 : Option Nat} {R : List Nat} (h : BoxRow w0 B lo r0 w (.slice (some ⟨g, 0, none⟩) R.length cap) R) (_ : i < R.length) :
    BoxRow w0 B lo r0 (w.setCell ⟨g, i, none⟩ (.int .i64 (x : Int))) (.slice (some ⟨g, 0, none⟩) R.length cap) (R.set i x) := by
  obtain ⟨h1, h2, h3, h4⟩ := h
  have hB : g ≠ B := fun e => (h1.off_own h2 (by decide)) (by rw [← e]; rfl)
  refine ⟨h1.far (Ne.symm hB) _, ?_, h3, h4.1, h4.2.1, h4.2.2.1, by simpa [World.setCell] using h4.2.2.2.1, fun k hk kB kr => ?_⟩
  · have := (h2.stored i (.int .i64 (x : Int))).1
    rw [List.length_set]
    rw [show (intCells (intsOf R)).set i (.int .i64 (x : Int)) = intCells (intsOf (R.set i x)) from by simp [intCells, intsOf, List.map_set]] at this
    exact this
  · have hne : k ≠ g := by
      rintro rfl
      rcases h3 with e | e
      · exact kr e
      · have := e k rfl; omega
    rw [Below.heap_setCell w ⟨g, i, none⟩ _ k hne]
    exact h4.2.2.2.2 k hk kB kr
theorem natCells_get {l : List Nat} {i x : Nat} (h : l[i]? = some x) : (intCells (intsOf l))[i]? = some (.int .i64 (x : Int)) := by simp [intCells, intsOf, h]
def boxLen (w : World) (B : Nat) : Nat := match w.cell? ⟨B, 0, none⟩ with
  | some (.slice _ n _) => n
  | _ => 0
theorem boxLen_eq {w : World} {B n c : Nat} {a : Option Addr} (h : w.cell? ⟨B, 0, none⟩ = some (.slice a n c)) : boxLen w B = n := by unfold boxLen; rw [h]

set_option maxRecDepth 10000 in
set_option maxHeartbeats 4000000 in
theorem impl_visit (p g cap n B lo G : Nat) (f : Nat → Nat) (R : List Nat) (rv : Value) (w : World) (hcell : w.cell? ⟨p, 0, none⟩ = some (.slice (some ⟨g, 0, none⟩) n cap)) (hrow : RowAt w (some ⟨g, 0, none⟩) (intCells (Cls.row f n)))
    (hn : n ≤ 24) (hG : Mp.genusOf (Cls.row f n) = (G : Int)) (hG1 : G ≤ 100) (hR : ∀ x ∈ R, x < 9000000000000000000) (hRl : R.length ≤ 200)
    (hbox : Blk w B 27 #[rv]) (hown : w.ownsRow lo 3 1 rv R.length (intCells (intsOf R))) (hlo : lo ≤ w.heap.size) :
    Calls Try.prog 50 #[.pointer (some ⟨p, 0, none⟩), .pointer (some ⟨B, 0, none⟩)] w fun e w' => e = .returned (.tuple #[]) ∧ ∃ rv', BoxRow w B lo rv.ownBlock w' rv' (Gr.count R G) := by
  have hgen := impl_GenusOf (some ⟨g, 0, none⟩) cap (Cls.row f n) w hrow (by rw [Cls.row_len]; omega)
  rw [Cls.row_len, hG] at hgen
  have hst : BoxRow w B lo rv.ownBlock w rv R := ⟨hbox, hown, Or.inl rfl, Keep2.refl _ _ _⟩
  obtain ⟨i0, hi0, hz0, hz1, hz2⟩ := info_int_parts
  have Hi0 := Lib.hid hi0; have Hz0 := Lib.hid hz0; have Hz1 := Lib.hid hz1; have Hz2 := Lib.hid hz2
  have Hgen := Lib.hid hgen; have Hst := Lib.hid hst; have HR := Lib.hid hR
  clear hi0 hz0 hz1 hz2 hgen hst hR hG hrow hbox hown
  go_enter Try.func50, Try.ntmps50
  go_wp2_with fail
  refine Hgen.out.mono ?_
  rintro e w1 ⟨rfl, hb1⟩
  have Hst1 := Lib.hid (Hst.out.below hb1)
  have hlo1 : lo ≤ w1.heap.size := Nat.le_trans hlo hb1.size
  clear hb1 hcell
  go_wp2
  go_loopw [9] (fun _ wr => ∃ j rv1, (j = 0 ∨ R.length + j ≤ G + 1) ∧ lo ≤ wr.heap.size ∧ Hid (BoxRow w B lo rv.ownBlock wr rv1 (R ++ List.replicate j 0))) (fun _ wr => G + 1 - boxLen wr B)
  case atStart => exact ⟨0, rv, Or.inl rfl, hlo1, by rw [List.replicate_zero, List.append_nil]; exact Hst1⟩
  case round =>
    obtain ⟨j, rv1, hj, hlo2, hbx⟩ := hrel
    obtain ⟨av, cv, rfl⟩ := own_len hbx.out.2.1
    have hc0 := hbx.out.1.cell 0
    have hlen : (R ++ List.replicate j 0).length = R.length + j := by simp
    have hbl := boxLen_eq hc0
    rw [hlen] at hc0 hbl
    by_cases hlt : R.length + j ≤ G
    · have d1 : ((R.length : Int) + (j : Int)) ≤ (G : Int) := by omega
      have d2 : ((R.length + j : Nat) : Int) ≤ (G : Int) := by omega
      have hnx := fun v3 w3 (h1 : w3.ownsRow lo 3 1 v3 ((R ++ List.replicate j 0).length + 1) (intCells (intsOf (R ++ List.replicate j 0)) ++ [.int .i64 0])) (h2 : (wr.alloc (.cells #[.int .i64 0] 3)).grownBy w3 (Value.slice av (R ++ List.replicate j 0).length cv).ownBlock) (h3 : v3.ownBlock = (Value.slice av (R ++ List.replicate j 0).length cv).ownBlock ∨ v3.ownBlock = some (wr.alloc (.cells #[.int .i64 0] 3)).heap.size) => hbx.out.more (x := 0) h1 h2 h3
      have hown := hbx.out.2.1
      rw [hlen] at hnx hown
      have Hnx := Lib.hid hnx
      have hm1 : R.length + j + 1 ≤ maxLen := by unfold maxLen; omega
      have hm2 : (R.length + j + 1) * 8 ≤ 140737488355328 := by omega
      have Hlen := Lib.hid hlen
      clear hnx hlen hlt
      generalize hm : R.length + j = m at *
      have Hm := Lib.hid hm
      clear hm
      go_wp2_with (at_builtin; refine append_one_new rfl (.tmp 13) (.tmp 14) 27 rfl lo 3 i0 _ 8 Try.underlying27 Hi0.out Hz0.out Hz1.out Hz2.out (by rfl) _ _ _ rfl hown (by rfl) _ rfl hm1 hm2 hlo2 ?_; intro v3 w3 hown3 hg3 hn3; obtain ⟨q1, q2, q3⟩ := Hnx.out v3 w3 hown3 hg3 hn3; obtain ⟨a3, c3, rfl⟩ := own_len hown3)
      have Q3 := Lib.hid q3
      have hsz : lo ≤ (w3.setCell ⟨B, 0, none⟩ (Value.slice a3 (m + 1) c3)).heap.size := by
        have := hg3.size
        have hs : (wr.alloc (.cells #[.int .i64 0] 3)).heap.size = wr.heap.size + 1 := by simp
        have hs2 : (w3.setCell ⟨B, 0, none⟩ (Value.slice a3 (m + 1) c3)).heap.size = w3.heap.size := by simp [World.setCell]
        omega
      have hbl3 := boxLen_eq (q3.1.cell 0)
      have Hbl3 := Lib.hid hbl3
      clear q3 hbl3
      go_roundw
      case rel => exact ⟨j + 1, _, Or.inr (by have := Hm.out; omega), hsz, Lib.hid (by rw [List.replicate_succ', ← List.append_assoc]; exact Q3.out)⟩
      case measure => rw [Hbl3.out, hbl]; omega
    · have d1 : ¬ ((R.length : Int) + (j : Int)) ≤ (G : Int) := by omega
      have d2 : ¬ ((R.length + j : Nat) : Int) ≤ (G : Int) := by omega
      have hjj : j = G + 1 - R.length := by omega
      have hlt2 : G < (R ++ List.replicate j 0).length := by omega
      obtain ⟨g1, cap1, e1, _, _⟩ := own_form hbx.out.2.1 (by omega)
      cases e1
      obtain ⟨x, hxd⟩ : ∃ x, (R ++ List.replicate j 0).getD G 0 = x := ⟨_, rfl⟩
      have hx : (R ++ List.replicate j 0)[G]? = some x := by rw [← hxd, List.getD_eq_getElem?_getD, List.getElem?_eq_getElem hlt2]; rfl
      have hsm : x < 9000000000000000000 := by
        have hm := get_mem hx
        rcases List.mem_append.1 hm with h | h
        · exact HR.out _ h
        · rw [(List.mem_replicate.1 h).2]; decide
      have hcx := hbx.out.2.1.cellAt G (by omega)
      rw [natCells_get hx] at hcx
      have hfz := hbx.out.2.1.frozenAt G
      have hset := hbx.out.set (i := G) (x := x + 1) hlt2
      have hcount : (R ++ List.replicate j 0).set G (x + 1) = Gr.count R G := by unfold Gr.count; rw [← hjj, hxd]
      rw [hcount, show ((x + 1 : Nat) : Int) = (x : Int) + 1 by omega] at hset
      have Hset := Lib.hid hset
      have k0 : (0 : Int) ≤ (G : Int) := by omega
      have k1 : (G : Int) < ((R.length + j : Nat) : Int) := by omega
      have hnm : R.length + j ≤ 400 := by omega
      have Hlen := Lib.hid hlen
      clear hset hcount hx hxd hbl hlt hlt2 hjj hj
      rw [hlen] at Hset
      clear hlen
      generalize R.length + j = m at *
      go_wp2
      exact bodyPost_end (v := .tuple #[]) (by first | kernel_rfl | simp [results, Try.f50]) rfl ⟨rfl, _, Hset.out⟩
end Go.Proofs.Ytpgdmbolckogcaa
