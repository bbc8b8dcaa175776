/- breakPatterns at words. -/
import Derived.Test.YtiedlkhbbnjkbaaSortPins
import Derived.Test.YtiedlkhbbnjkbaaShelf
import Derived.Lib.BitFns
namespace Go.Proofs.Ytiedlkhbbnjkbaa
open Go.RowKit
open Go.Sort (swp ltInt PermIn SortedIn)

theorem bitLen_pow : ∀ (n : Nat), 1 ≤ n → n < 18446744073709551616 → 2 ^ Lib.bitLen n ≤ 2 * n := by
  intro n
  induction n using Nat.strongRecOn with
  | _ n ih =>
    intro h1 h2
    rw [Lib.bitLen_half n (by omega) h2]
    by_cases c : n = 1
    · subst c; decide
    · have := ih (n / 2) (by omega) (by omega) (by omega)
      rw [Nat.add_comm, Nat.pow_succ]
      omega

theorem bitLen_le {n : Nat} (h1 : 1 ≤ n) (h2 : n < 4611686018427387904) : Lib.bitLen n ≤ 62 := by
  have := bitLen_pow n h1 (by omega)
  by_cases c : Lib.bitLen n ≤ 62
  · exact c
  · have : 2 ^ 63 ≤ 2 ^ Lib.bitLen n := Nat.pow_le_pow_right (by omega) (by omega)
    omega

theorem next2_c (n : Nat) (h1 : 1 ≤ n) (h2 : n < 4611686018427387904) (w : World) :
    Calls Try.prog 57 #[.int .i64 n] w fun e w' => e = .returned (.int .u64 ((2 ^ Lib.bitLen n : Nat) : Int)) ∧ w = w' := by
  have hb := bitLen_le h1 h2
  have hl := Try.bits_Len n w (by omega) (by omega)
  rw [Int.toNat_natCast] at hl
  generalize Lib.bitLen n = k at *
  have hp : 2 ^ k ≤ 2 ^ 62 := Nat.pow_le_pow_right (by omega) hb
  have HE : Hid (IntKind.u64.wrap ((2 : Int) ^ k) = ((2 ^ k : Nat) : Int)) := by
    show _ = _
    have h5 : ((2 : Int) ^ k) = ((2 ^ k : Nat) : Int) := by simp
    rw [h5, IntKind.wrap_u64]
    generalize 2 ^ k = P at *
    omega
  clear hp
  go_enter Try.func57, Try.ntmps57
  go_wp2_with fail
  refine hl.mono ?_
  rintro e w1 ⟨rfl, hw⟩
  subst hw
  go_wp2
  go_ret
  refine ⟨?_, rfl⟩
  rw [← HE.out]
  first
    | rfl
    | simp

theorem bits_range (op : BinOp) (x y : Int) : 0 ≤ bits op .u64 x y ∧ bits op .u64 x y < 18446744073709551616 := by
  unfold bits
  rw [IntKind.wrap_u64]
  omega

theorem one_set {w : World} {r : Nat} {u v : Value} (hc : w.cell? ⟨r, 0, none⟩ = some u) (hf : w.frozen? ⟨r, 0, none⟩ = false) :
    (w.setCell ⟨r, 0, none⟩ v).drew.cell? ⟨r, 0, none⟩ = some v ∧ (w.setCell ⟨r, 0, none⟩ v).drew.frozen? ⟨r, 0, none⟩ = false ∧ Turn (fun i => i = r) w (w.setCell ⟨r, 0, none⟩ v).drew :=
  ⟨cell_set_same hc, (World.frozen?_setCell _ _ _ _).trans hf, ⟨rfl, rfl, rfl, by simp [World.setCell], fun k _ hne => Below.heap_setCell _ _ _ _ hne⟩⟩

set_option maxHeartbeats 1000000 in
theorem xor_c {w : World} {r : Nat} (x : Int) (hc : w.cell? ⟨r, 0, none⟩ = some (.int .u64 x)) (hf : w.frozen? ⟨r, 0, none⟩ = false) :
    Calls Try.prog 58 #[.pointer (some ⟨r, 0, none⟩)] w fun e w' => ∃ y : Nat, y < 18446744073709551616 ∧ e = .returned (.int .u64 y) ∧ w'.cell? ⟨r, 0, none⟩ = some (.int .u64 y) ∧ w'.frozen? ⟨r, 0, none⟩ = false ∧ Turn (fun i => i = r) w w' := by
  go_enter Try.func58, Try.ntmps58
  go_wp2
  go_region
  generalize bits BinOp.xor IntKind.u64 _ _ = v1
  obtain ⟨c1, g1, t1⟩ := one_set (v := .int .u64 v1) hc hf
  have T1 := Hid.mk t1
  clear hc hf t1
  generalize (w.setCell ⟨r, 0, none⟩ (.int .u64 v1)).drew = w1 at *
  go_wp2
  go_region
  generalize bits BinOp.xor IntKind.u64 _ _ = v2
  obtain ⟨c2, g2, t2⟩ := one_set (v := .int .u64 v2) c1 g1
  have T2 := Hid.mk t2
  clear c1 g1 t2
  generalize (w1.setCell ⟨r, 0, none⟩ (.int .u64 v2)).drew = w2 at *
  go_wp2
  go_region
  have hr := bits_range BinOp.xor v2 (IntKind.u64.wrap (v2 * 131072))
  have HB := Hid.mk hr
  clear hr
  generalize hv3 : bits BinOp.xor IntKind.u64 v2 _ = v3 at *
  clear hv3
  obtain ⟨y, rfl⟩ := Int.eq_ofNat_of_zero_le HB.out.1
  obtain ⟨c3, g3, t3⟩ := one_set (v := .int .u64 (y : Nat)) c2 g2
  have T3 := Hid.mk t3
  clear c2 g2 t3
  generalize (w2.setCell ⟨r, 0, none⟩ (.int .u64 (y : Nat))).drew = w3 at *
  go_wp2
  go_ret
  exact ⟨y, by have := HB.out.2; omega, rfl, c3, g3, (T1.out.trans T2.out (fun _ _ h => h)).trans T3.out (fun _ _ h => h)⟩

theorem To.side {g r : Nat} {w w1 w2 : World} {e : Array Int} (h : To g w e w1) (ht : Turn (fun i => i = r) w1 w2) (hr : w.heap.size ≤ r) : To g w e w2 := by
  have hgr : g ≠ r := by have := h.2.2; omega
  have hb : w2.heap[g]? = w1.heap[g]? := ht.block g h.lt (fun e => hgr e)
  refine ⟨fun j hj => ⟨(World.cell?_of_block (a := ⟨g, j, none⟩) hb).trans (h.1 j hj).1, (World.frozen?_of_block (a := ⟨g, j, none⟩) hb).trans (h.1 j hj).2⟩, ?_, h.2.2⟩
  exact ⟨ht.os.trans h.2.1.os, ht.tape.trans h.2.1.tape, ht.output.trans h.2.1.output, Nat.le_trans h.2.1.size ht.size, fun i hi hne => (ht.block i (Nat.lt_of_lt_of_le hi h.2.1.size) (fun e => by omega)).trans (h.2.1.block i hi hne)⟩

theorem two_far {w : World} {g r i j : Nat} {u v x : Value} (hc : w.cell? ⟨r, 0, none⟩ = some x) (hf : w.frozen? ⟨r, 0, none⟩ = false) (hne : r ≠ g) :
    ((w.setCell ⟨g, i, none⟩ u).setCell ⟨g, j, none⟩ v).drew.cell? ⟨r, 0, none⟩ = some x ∧ ((w.setCell ⟨g, i, none⟩ u).setCell ⟨g, j, none⟩ v).drew.frozen? ⟨r, 0, none⟩ = false := by
  have hb : ((w.setCell ⟨g, i, none⟩ u).setCell ⟨g, j, none⟩ v).heap[r]? = w.heap[r]? := by
    rw [Below.heap_setCell _ _ _ _ hne, Below.heap_setCell _ _ _ _ hne]
  exact ⟨(World.cell?_of_block (a := ⟨r, 0, none⟩) hb).trans hc, (World.frozen?_of_block (a := ⟨r, 0, none⟩) hb).trans hf⟩

theorem and_below (y M : Nat) (hy : y < 18446744073709551616) (h1 : 1 ≤ M) (h2 : M < 18446744073709551616) : bits .and .u64 (y : Int) ((M : Int) - 1) = ((y &&& (M - 1) : Nat) : Int) ∧ (y &&& (M - 1)) < M := by
  have := bits_andW y (M - 1) hy (by omega)
  rw [show ((M - 1 : Nat) : Int) = (M : Int) - 1 by omega] at this
  exact ⟨this, Nat.lt_of_le_of_lt Nat.and_le_right (by omega)⟩

set_option maxRecDepth 100000 in
set_option maxHeartbeats 4000000 in
theorem break_c {w : World} {g : Nat} {d : Array Int} (cap a b : Nat) (h : Rw w g d) (hg : g < w.heap.size) (hab : a ≤ b) (hb : b ≤ d.size) (hs : d.size < 4611686018427387904) :
    Calls Try.prog 47 #[.slice (some ⟨g, 0, none⟩) d.size cap, .int .i64 a, .int .i64 b] w fun r w' => r = .returned (.tuple #[]) ∧ ∃ e, PermIn a b d e ∧ To g w e w' := by
  have HR : Hid (To g w d w) := To.refl h hg
  obtain ⟨L, hL⟩ : ∃ L, L = b - a := ⟨_, rfl⟩
  have iL : (b : Int) - a = (L : Int) := by omega
  by_cases h8 : 8 ≤ L
  · have d8 : decide ((8 : Int) ≤ L) = true := decide_eq_true (by omega)
    have hn2 := next2_c L (by omega) (by omega)
    have hM := bitLen_pow L (by omega) (by omega)
    have hM1 : 1 ≤ 2 ^ Lib.bitLen L := Nat.one_le_two_pow
    generalize 2 ^ Lib.bitLen L = M at *
    obtain ⟨I0, hI0⟩ : ∃ I0, I0 = a + L / 4 * 2 - 1 := ⟨_, rfl⟩
    have iI0 : (a : Int) + (L : Int) / 4 * 2 - 1 = (I0 : Int) := by omega
    have iI1 : (a : Int) + (L : Int) / 4 * 2 + 1 = (I0 : Int) + 2 := by omega
    have hA1 : a ≤ I0 := by omega
    have hA2 : I0 + 2 < b := by omega
    have HA0 := Hid.mk (show PermIn a b d d from Sort.permIn_refl _ _ _)
    clear h hL hI0
    go_enter Try.func47, Try.ntmps47
    go_wp2_with fail
    refine (hn2 _).mono ?_
    rintro e1 w1 ⟨rfl, rfl⟩
    clear hn2
    have HT0 : Hid (To g w d (w.alloc (.cells #[.int .u64 (L : Nat)] 94))) := HR.out.below ((Below.refl _ _).alloc (Nat.le_refl _) _)
    have HC0 : Hid ((w.alloc (.cells #[.int .u64 (L : Nat)] 94)).cell? ⟨w.heap.size, 0, none⟩ = some (.int .u64 (L : Nat)) ∧ (w.alloc (.cells #[.int .u64 (L : Nat)] 94)).frozen? ⟨w.heap.size, 0, none⟩ = false) := by
      constructor
      · simp
      · exact frozen_of_row _ _ _ _ _ (heap_alloc_new w _)
    generalize w.alloc (.cells #[.int .u64 (L : Nat)] 94) = w0 at *
    go_wp2
    go_loopw [9] (fun t wr => ∃ (p : Nat) (e : Array Int) (x : Int), t = .int .i64 p ∧ I0 ≤ p ∧ p ≤ I0 + 3 ∧ PermIn a b d e ∧ To g w e wr ∧ wr.cell? ⟨w.heap.size, 0, none⟩ = some (.int .u64 x) ∧ wr.frozen? ⟨w.heap.size, 0, none⟩ = false) (fun t _ => ((I0 : Int) + 3 - intOf t).toNat)
    case atStart => exact ⟨I0, d, L, by first | rfl | go_num, Nat.le_refl _, by omega, HA0.out, HT0.out, HC0.out⟩
    case round =>
      clear HA0 HT0 HC0 HR
      obtain ⟨p, e, x, rfl, hp1, hp2, hPe, hT, hc, hf⟩ := hrel
      have hez : e.size = d.size := hPe.1
      have HPe := Hid.mk hPe
      have HT := Hid.mk hT
      have HCx := Hid.mk (And.intro hc hf)
      clear hPe hT hc hf
      by_cases hp : p ≤ I0 + 2
      · have dp : decide ((p : Int) ≤ (I0 : Int) + 2) = true := decide_eq_true (by omega)
        have hx := xor_c x HCx.out.1 HCx.out.2
        go_wp2_with fail
        refine hx.mono ?_
        rintro e2 w2 ⟨y, hy, rfl, hc2, hf2, ht2⟩
        have HT2 := Hid.mk (HT.out.side ht2 (Nat.le_refl _))
        have HCy := Hid.mk (And.intro hc2 hf2)
        obtain ⟨hand, hlt⟩ := and_below y M hy hM1 (by omega)
        generalize y &&& (M - 1) = o at *
        clear hx hc2 hf2 ht2 HT HCx
        by_cases ho : L ≤ o
        · have do_ : decide ((L : Int) ≤ o) = true := decide_eq_true (by omega)
          obtain ⟨o2, ho2⟩ : ∃ o2, o2 = o - L := ⟨_, rfl⟩
          have io2 : (o : Int) - L = (o2 : Int) := by omega
          have ho3 : o2 < L := by omega
          clear ho2
          obtain ⟨aq, haq⟩ : ∃ aq, aq = a + o2 := ⟨_, rfl⟩
          have iaq : (a : Int) + o2 = (aq : Int) := by omega
          have baq : aq < e.size := by omega
          have bp : p < e.size := by omega
          have baqd : (aq : Int) < d.size := by omega
          have bpd : (p : Int) < d.size := by omega
          have HPm : Hid (PermIn a b d (swp e p aq)) := Sort.permIn_trans _ _ _ _ _ HPe.out (Sort.swp_permIn _ _ _ _ _ (by omega) (by omega) (by omega) (by omega) (by omega))
          obtain ⟨f1, f2, f3, f4, z5, f5⟩ := HT2.out.1.facts (i := p) (j := aq) bp baq
          obtain ⟨z6, f6⟩ := HT2.out.1.fact6 p (j := aq) baq (.int .u64 e[aq]!)
          have HTs : Hid (To g w (swp e p aq) (((w2.setCell ⟨g, p, none⟩ (.int .u64 e[aq]!)).setCell ⟨g, aq, none⟩ (.int .u64 e[p]!)).drew)) := (HT2.out.trans (HT2.out.1.swap HT2.out.lt (i := p) (j := aq) bp baq)).drew
          have HCs : Hid (((w2.setCell ⟨g, p, none⟩ (.int .u64 e[aq]!)).setCell ⟨g, aq, none⟩ (.int .u64 e[p]!)).drew.cell? ⟨w.heap.size, 0, none⟩ = some (.int .u64 (y : Nat)) ∧ ((w2.setCell ⟨g, p, none⟩ (.int .u64 e[aq]!)).setCell ⟨g, aq, none⟩ (.int .u64 e[p]!)).drew.frozen? ⟨w.heap.size, 0, none⟩ = false) := two_far HCy.out.1 HCy.out.2 (by omega)
          generalize e[p]! = x2 at f1 f2 f5 f6 HTs HCs
          generalize e[aq]! = y2 at f1 f2 f5 f6 HTs HCs
          clear haq
          go_wp2
          go_region
          clear f1 f2 f3 f4 f5 f6
          generalize ((w2.setCell ⟨g, p, none⟩ (.int .u64 y2)).setCell ⟨g, aq, none⟩ (.int .u64 x2)).drew = wn at *
          go_wp2
          refine ⟨⟨p + 1, swp e p aq, (y : Int), by first | rfl | go_num, by omega, by omega, HPm.out, HTs.out, HCs.out⟩, by first | (simp [intOf]; done) | (simp [intOf]; omega)⟩
        · have do_ : decide ((L : Int) ≤ o) = false := decide_eq_false (by omega)
          obtain ⟨aq, haq⟩ : ∃ aq, aq = a + o := ⟨_, rfl⟩
          have iaq : (a : Int) + o = (aq : Int) := by omega
          have baq : aq < e.size := by omega
          have bp : p < e.size := by omega
          have baqd : (aq : Int) < d.size := by omega
          have bpd : (p : Int) < d.size := by omega
          have HPm : Hid (PermIn a b d (swp e p aq)) := Sort.permIn_trans _ _ _ _ _ HPe.out (Sort.swp_permIn _ _ _ _ _ (by omega) (by omega) (by omega) (by omega) (by omega))
          obtain ⟨f1, f2, f3, f4, z5, f5⟩ := HT2.out.1.facts (i := p) (j := aq) bp baq
          obtain ⟨z6, f6⟩ := HT2.out.1.fact6 p (j := aq) baq (.int .u64 e[aq]!)
          have HTs : Hid (To g w (swp e p aq) (((w2.setCell ⟨g, p, none⟩ (.int .u64 e[aq]!)).setCell ⟨g, aq, none⟩ (.int .u64 e[p]!)).drew)) := (HT2.out.trans (HT2.out.1.swap HT2.out.lt (i := p) (j := aq) bp baq)).drew
          have HCs : Hid (((w2.setCell ⟨g, p, none⟩ (.int .u64 e[aq]!)).setCell ⟨g, aq, none⟩ (.int .u64 e[p]!)).drew.cell? ⟨w.heap.size, 0, none⟩ = some (.int .u64 (y : Nat)) ∧ ((w2.setCell ⟨g, p, none⟩ (.int .u64 e[aq]!)).setCell ⟨g, aq, none⟩ (.int .u64 e[p]!)).drew.frozen? ⟨w.heap.size, 0, none⟩ = false) := two_far HCy.out.1 HCy.out.2 (by omega)
          generalize e[p]! = x2 at f1 f2 f5 f6 HTs HCs
          generalize e[aq]! = y2 at f1 f2 f5 f6 HTs HCs
          clear haq
          go_wp2
          go_region
          clear f1 f2 f3 f4 f5 f6
          generalize ((w2.setCell ⟨g, p, none⟩ (.int .u64 y2)).setCell ⟨g, aq, none⟩ (.int .u64 x2)).drew = wn at *
          go_wp2
          refine ⟨⟨p + 1, swp e p aq, (y : Int), by first | rfl | go_num, by omega, by omega, HPm.out, HTs.out, HCs.out⟩, by first | (simp [intOf]; done) | (simp [intOf]; omega)⟩
      · have dp : decide ((p : Int) ≤ (I0 : Int) + 2) = false := decide_eq_false (by omega)
        go_wp2
        go_end0
        exact ⟨rfl, e, HPe.out, HT.out⟩
  · have d8 : decide ((8 : Int) ≤ L) = false := decide_eq_false (by omega)
    clear h hL
    go_enter Try.func47, Try.ntmps47
    go_wp2
    go_end0
    exact ⟨rfl, d, Sort.permIn_refl _ _ _, HR.out⟩
end Go.Proofs.Ytiedlkhbbnjkbaa
