/- The program's memory as a function from addresses to words; New and Read. -/
import Derived.Test.YtcmndefjmhcbhaaDoorPhysRow
import Derived.Test.YtcmndefjmhcbhaaDoorSegs
namespace Go.Proofs.YtcmndefjmhcbhaaDoor
open Go.RowKit Go.Maps

/-- The first address of the page of an address. -/
def dn (x : Nat) : Nat := x / 4096 * 4096
theorem dn_le (x : Nat) : dn x ≤ x := Nat.div_mul_le_self _ _
theorem dn_mod (x : Nat) : dn x % 4096 = 0 := Nat.mul_mod_left _ _
theorem dn_lt (x : Nat) : x < dn x + 4096 := by unfold dn; omega
def plc (x : Nat) : Nat := x % 4096 / 8
theorem plc_lt (x : Nat) : plc x < 512 := by unfold plc; omega
theorem dn_plc {x : Nat} (h : x % 8 = 0) : dn x + 8 * plc x = x := by unfold dn plc; omega

/-- The error of an address: 13 (not aligned), 12 (not below the size), 0. -/
def errA (S x : Nat) : Int := if x % 8 ≠ 0 then 13 else if S ≤ x then 12 else 0

theorem andn_12 (x : Nat) (hx : x < 18446744073709551616) : andn x 4095 = dn x := by
  apply Nat.eq_of_testBit_eq
  intro i
  rw [andn_testBit _ _ _ (by decide)]
  have e1 : (4095 : Nat).testBit i = decide (i < 12) := Nat.testBit_two_pow_sub_one 12 i
  have e2 : (dn x).testBit i = (decide (12 ≤ i) && x.testBit i) := by
    show (x / 2 ^ 12 * 2 ^ 12).testBit i = _
    rw [Nat.testBit_mul_two_pow, Nat.testBit_div_two_pow]
    by_cases h : 12 ≤ i
    · simp [h]
    · simp [h]
  rw [e1, e2]
  by_cases h : 12 ≤ i
  · by_cases h6 : i < 64
    · simp [h, h6]
    · rw [high_bit x i hx (by omega)]; simp
  · simp [h]; omega

theorem ones_c (n : Nat) (hn : n = 3 ∨ n = 12) (w : World) :
    Calls Tryd.prog 55 #[.int .i64 n] w fun e w' => e = .returned (.int .u64 ((2 ^ n - 1 : Nat) : Int)) ∧ w = w' := by
  rcases hn with rfl | rfl
  · go_enter Tryd.func55, Tryd.ntmps55
    go_wp2
    go_ret
    exact ⟨rfl, rfl⟩
  · go_enter Tryd.func55, Tryd.ntmps55
    go_wp2
    go_ret
    exact ⟨rfl, rfl⟩

theorem down_c (x : Nat) (hx : x < 18446744073709551616) (w : World) :
    Calls Tryd.prog 39 #[.int .u64 x, .int .i64 12] w fun e w' => e = .returned (.int .u64 ((dn x : Nat) : Int)) ∧ w = w' := by
  have hb : bits .andNot .u64 (x : Int) 4095 = ((dn x : Nat) : Int) := by
    have := bits_andNot x 4095 hx (by decide)
    rw [andn_12 x hx] at this
    exact this
  go_enter Tryd.func39, Tryd.ntmps39
  go_wp2_with fail
  refine (ones_c 12 (Or.inr rfl) w).mono ?_
  rintro e w1 ⟨rfl, rfl⟩
  go_wp2
  go_ret
  exact ⟨rfl, rfl⟩

theorem bits_andW (a b : Nat) (ha : a < 18446744073709551616) (hb : b < 18446744073709551616) : bits .and .u64 (a : Int) (b : Int) = ((a &&& b : Nat) : Int) := by
  have h1 : (BitVec.ofInt 64 (a : Int)) = BitVec.ofNat 64 a := BitVec.ofInt_natCast 64 a
  have h2 : (BitVec.ofInt 64 (b : Int)) = BitVec.ofNat 64 b := BitVec.ofInt_natCast 64 b
  show IntKind.u64.wrap ((BitVec.ofInt 64 (a : Int) &&& BitVec.ofInt 64 (b : Int)).toNat : Int) = _
  rw [h1, h2, IntKind.wrap_u64]
  have h3 : (BitVec.ofNat 64 a &&& BitVec.ofNat 64 b).toNat = a &&& b := by
    rw [BitVec.toNat_and, BitVec.toNat_ofNat, BitVec.toNat_ofNat, Nat.mod_eq_of_lt ha, Nat.mod_eq_of_lt hb]
  rw [h3]
  have : a &&& b ≤ a := Nat.and_le_left
  omega

/-- Does 2 ^ n divide x? -/
def alB (x n : Nat) : Bool := decide (x % 2 ^ n = 0)

theorem aligned_c (x n : Nat) (hn : n = 3 ∨ n = 12) (hx : x < 18446744073709551616) (w : World) :
    Calls Tryd.prog 44 #[.int .u64 x, .int .i64 n] w fun e w' => e = .returned (.bool (alB x n)) ∧ w = w' := by
  have hl : 2 ^ n - 1 < 18446744073709551616 := by rcases hn with rfl | rfl <;> decide
  have hb := bits_andW x (2 ^ n - 1) hx hl
  rw [Nat.and_two_pow_sub_one_eq_mod] at hb
  have HE : Hid (alB x n = decide (((x % 2 ^ n : Nat) : Int) = 0)) := by
    show alB x n = _
    unfold alB
    rw [decide_eq_decide]; omega
  go_enter Tryd.func44, Tryd.ntmps44
  go_wp2_with fail
  refine (ones_c n hn w).mono ?_
  rintro e w1 ⟨rfl, rfl⟩
  generalize 2 ^ n - 1 = m at *
  generalize x % 2 ^ n = r at *
  go_wp2
  go_ret
  refine ⟨?_, rfl⟩
  rw [HE.out]
  first
    | rfl
    | simp

theorem place_c (x : Nat) (hx : x < 18446744073709551616) (w : World) :
    Calls Tryd.prog 41 #[.int .u64 x] w fun e w' => e = .returned (.int .u64 ((plc x : Nat) : Int)) ∧ w = w' := by
  have HE : Hid (((plc x : Nat) : Int) = ((x : Int) % 4096) / 8) := by
    show ((plc x : Nat) : Int) = _
    unfold plc; omega
  go_enter Tryd.func41, Tryd.ntmps41
  go_wp2
  go_ret
  refine ⟨?_, rfl⟩
  rw [HE.out]
  first
    | rfl
    | (congr 2; done)
    | (congr 2; omega)

/-! ### the memory -/
/-- Block a is a memory of S bytes, its map in block mb: the word at x is f x. X: the blocks that it may own. -/
structure Mem (w : World) (X : Nat → Prop) (a S n : Nat) (f : Nat → Nat) (mb : Nat) (pg : Nat → Option Nat) : Prop where
  str : w.heap[a]? = some (.cells #[.int .u64 (S : Nat), .map (some mb)] 81 (0, 0))
  pgs : Pages w mb n pg
  xa : X a
  xm : X mb
  xlt : ∀ i, X i → i < w.heap.size
  s0 : 65536 ≤ S ∧ S ≤ 4294967296 ∧ S % 4096 = 0
  page : ∀ x b, pg x = some b → X b ∧ x % 4096 = 0 ∧ x < S ∧ w.heap[b]? = some (.cells (prow fun i => f (x + 8 * i)) 93 (0, 0)) ∧ ∃ i, i < 512 ∧ f (x + 8 * i) ≠ 0
  inj : ∀ x y b, pg x = some b → pg y = some b → x = y
  zero : ∀ x, x % 4096 = 0 → pg x = none → ∀ i, i < 512 → f (x + 8 * i) = 0
  fl : ∀ x, f x < 18446744073709551616
  out : ∀ x, (x % 8 ≠ 0 ∨ S ≤ x) → f x = 0

def MemAt (w : World) (X : Nat → Prop) (a S n : Nat) (f : Nat → Nat) : Prop := ∃ mb pg, Mem w X a S n f mb pg

/-- X and what is new. -/
def Gr (X : Nat → Prop) (w w' : World) : Nat → Prop := fun i => X i ∨ (w.heap.size ≤ i ∧ i < w'.heap.size)

theorem Mem.kept {w w' : World} {X : Nat → Prop} {a S n : Nat} {f : Nat → Nat} {mb : Nat} {pg : Nat → Option Nat} (h : Mem w X a S n f mb pg) (hb : ∀ i, X i → w'.heap[i]? = w.heap[i]?) (hs : w.heap.size ≤ w'.heap.size) : Mem w' X a S n f mb pg :=
  ⟨(hb a h.xa).trans h.str, h.pgs.block (hb mb h.xm), h.xa, h.xm, fun i hi => Nat.lt_of_lt_of_le (h.xlt i hi) hs, h.s0,
   fun x b e => by obtain ⟨h1, h2, h3, h4, h5⟩ := h.page x b e; exact ⟨h1, h2, h3, (hb b h1).trans h4, h5⟩, h.inj, h.zero, h.fl, h.out⟩

theorem Mem.wide {w : World} {X Y : Nat → Prop} {a S n : Nat} {f : Nat → Nat} {mb : Nat} {pg : Nat → Option Nat} (h : Mem w X a S n f mb pg) (hXY : ∀ i, X i → Y i) (hlt : ∀ i, Y i → i < w.heap.size) : Mem w Y a S n f mb pg :=
  ⟨h.str, h.pgs, hXY _ h.xa, hXY _ h.xm, hlt, h.s0, fun x b e => by obtain ⟨h1, h2⟩ := h.page x b e; exact ⟨hXY _ h1, h2⟩, h.inj, h.zero, h.fl, h.out⟩

theorem MemAt.below {w w' : World} {X : Nat → Prop} {a S n : Nat} {f : Nat → Nat} (h : MemAt w X a S n f) (hb : Below w.heap.size w w') : MemAt w' X a S n f := by
  obtain ⟨mb, pg, h⟩ := h
  exact ⟨mb, pg, h.kept (fun i hi => hb.block i (h.xlt i hi)) hb.size⟩

/-- Another memory's doings leave this one alone. -/
theorem MemAt.turn {w w' : World} {X Y : Nat → Prop} {a S n : Nat} {f : Nat → Nat} (h : MemAt w X a S n f) (hb : Turn Y w w') (hd : ∀ i, X i → ¬ Y i) : MemAt w' X a S n f := by
  obtain ⟨mb, pg, h⟩ := h
  exact ⟨mb, pg, h.kept (fun i hi => hb.block i (h.xlt i hi) (hd i hi)) hb.size⟩

theorem MemAt.lt {w : World} {X : Nat → Prop} {a S n : Nat} {f : Nat → Nat} (h : MemAt w X a S n f) : ∀ i, X i → i < w.heap.size := by
  obtain ⟨mb, pg, h⟩ := h
  exact h.xlt

theorem Mem.c0 {w : World} {X : Nat → Prop} {a S n : Nat} {f : Nat → Nat} {mb : Nat} {pg : Nat → Option Nat} (h : Mem w X a S n f mb pg) : w.cell? ⟨a, 0, none⟩ = some (.int .u64 (S : Nat)) := by simp [World.cell?, h.str]
theorem Mem.c1 {w : World} {X : Nat → Prop} {a S n : Nat} {f : Nat → Nat} {mb : Nat} {pg : Nat → Option Nat} (h : Mem w X a S n f mb pg) : w.cell? ⟨a, 1, none⟩ = some (.map (some mb)) := by simp [World.cell?, h.str]

theorem check_c {w : World} {a S : Nat} (x : Nat) (hx : x < 18446744073709551616) (c0 : w.cell? ⟨a, 0, none⟩ = some (.int .u64 (S : Nat))) :
    Calls Tryd.prog 37 #[.pointer (some ⟨a, 0, none⟩), .int .u64 x] w fun e w' => e = .returned (.int .i64 (errA S x)) ∧ w = w' := by
  cases hal : alB x 3
  · have HE : Hid (errA S x = 13) := by
      show errA S x = 13
      have := of_decide_eq_false hal
      unfold errA; rw [if_pos this]
    go_enter Tryd.func37, Tryd.ntmps37
    go_wp2_with fail
    refine (aligned_c x 3 (Or.inl rfl) hx w).mono ?_
    rintro e w1 ⟨rfl, rfl⟩
    rw [hal]
    go_wp2
    go_ret
    exact ⟨by rw [HE.out]; rfl, rfl⟩
  · have h8 := of_decide_eq_true hal
    by_cases hS : S ≤ x
    · have HE : Hid (errA S x = 12) := by
        show errA S x = 12
        unfold errA; rw [if_neg (fun c => c h8), if_pos hS]
      go_enter Tryd.func37, Tryd.ntmps37
      go_wp2_with fail
      refine (aligned_c x 3 (Or.inl rfl) hx w).mono ?_
      rintro e w1 ⟨rfl, rfl⟩
      rw [hal]
      go_wp2
      go_ret
      exact ⟨by rw [HE.out]; rfl, rfl⟩
    · have HE : Hid (errA S x = 0) := by
        show errA S x = 0
        unfold errA; rw [if_neg (fun c => c h8), if_neg hS]
      go_enter Tryd.func37, Tryd.ntmps37
      go_wp2_with fail
      refine (aligned_c x 3 (Or.inl rfl) hx w).mono ?_
      rintro e w1 ⟨rfl, rfl⟩
      rw [hal]
      go_wp2
      go_ret
      exact ⟨by rw [HE.out]; rfl, rfl⟩
end Go.Proofs.YtcmndefjmhcbhaaDoor
