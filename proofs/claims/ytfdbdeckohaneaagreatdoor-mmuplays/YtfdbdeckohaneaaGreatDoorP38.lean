/- P38 -/
import Derived.Test.YtfdbdeckohaneaaGreatDoorP37
set_option maxHeartbeats 16000000
set_option maxRecDepth 100000
namespace Go.Proofs.YtfdbdeckohaneaaGreatDoor.MM
open Go.RowKit Go.Maps
def Kp (l : List Nat) (w w' : World) : Prop := w.heap.size ≤ w'.heap.size ∧ ∀ g ∈ l, w'.heap[g]? = w.heap[g]?
theorem Kp.refl (l : List Nat) (w : World) : Kp l w w := ⟨Nat.le_refl _, fun _ _ => rfl⟩
theorem Kp.trans {l : List Nat} {w1 w2 w3 : World} (h : Kp l w1 w2) (k : Kp l w2 w3) : Kp l w1 w3 := ⟨Nat.le_trans h.1 k.1, fun g hg => (k.2 g hg).trans (h.2 g hg)⟩
theorem Kp.cell {l : List Nat} {w w' : World} (h : Kp l w w') {g i : Nat} {v : Value} (hg : g ∈ l) (hc : w.cell? ⟨g, i, none⟩ = some v) : w'.cell? ⟨g, i, none⟩ = some v := (World.cell?_of_block (a := ⟨g, i, none⟩) (h.2 g hg)).trans hc
theorem Kp.row {l : List Nat} {w w' : World} (h : Kp l w w') {g : Nat} {o : Obj} (hg : g ∈ l) (hc : w.heap[g]? = some o) : w'.heap[g]? = some o := (h.2 g hg).trans hc
def One (w0 w : World) (l : List Nat) (x a n S : Nat) (most : Int) (s : St) : Prop := ∃ X, Mch w0 w X x a n S most s ∧ ∀ g ∈ l, g < w.heap.size ∧ ¬ X g
section
variable {w0 w w' : World} {l : List Nat} {x a n n' S : Nat} {most : Int} {s s' : St}
theorem One.bl (h : One w0 w l x a n S most s) : Below w0.heap.size w0 w := by
 obtain ⟨X, h, -⟩ := h
 exact h.bl
theorem One.wfm (h : One w0 w l x a n S most s) : Wf most s := by
 obtain ⟨X, h, -⟩ := h
 exact h.wfm
theorem One.later (h : One w0 w l x a n S most s) (hb : Below w.heap.size w w') : One w0 w' l x a n S most s := by
 obtain ⟨X, h, hl⟩ := h
 exact ⟨X, h.later hb, fun g hg => ⟨Nat.lt_of_lt_of_le (hl g hg).1 hb.size, (hl g hg).2⟩⟩
theorem One.own (h : One w0 w l x a n S most s) (o : Obj) : One w0 (w.alloc o) (w.heap.size :: l) x a n S most s := by
 obtain ⟨X, h, hl⟩ := h
 refine ⟨X, h.later (qac _ _), fun g hg => ?_⟩
 rcases List.mem_cons.1 hg with rfl | hg
 ·exact ⟨by simp, h.nX (Nat.le_refl _)⟩
 ·exact ⟨by have := (hl g hg).1; simp; omega, (hl g hg).2⟩
theorem One.mono {m : Nat} (h : One w0 w l x a n S most s) (hn : n ≤ m) : One w0 w l x a m S most s := by
 obtain ⟨X, h, hX⟩ := h
 exact ⟨X, h.mono hn, hX⟩
theorem One.put {Y : Nat → Prop} (h : One w0 w l x a n S most s) (ht : Turn Y w w') (hY : ∀ i, Y i → i ∈ l ∧ w0.heap.size ≤ i) : One w0 w' l x a n S most s := by
 obtain ⟨X, h, hX⟩ := h
 exact ⟨X, h.turn ht (fun i hi hy => (hX i (hY i hy).1).2 hi) (fun i hy => (hY i hy).2), fun g hg => ⟨Nat.lt_of_lt_of_le (hX g hg).1 ht.size, (hX g hg).2⟩⟩
theorem One.does {P : Program} {f : FuncId} {args : Array Value} {R : Ending → Prop} (h : One w0 w l x a n S most s)
  (hc : ∀ X, Mch w0 w X x a n S most s → Calls P f args w fun r w' => R r ∧ Mch w0 w' (Gr X w w') x a n' S most s' ∧ Turn X w w') :
  Calls P f args w fun r w' => R r ∧ One w0 w' l x a n' S most s' ∧ Kp l w w' := by
 obtain ⟨X, h, hl⟩ := h
 refine (hc X h).mono ?_
 rintro r w' ⟨hr, hM, hT⟩
 refine ⟨hr, ⟨Gr X w w', hM, fun g hg => ⟨Nat.lt_of_lt_of_le (hl g hg).1 hT.size, fun c => ?_⟩⟩, hT.size, fun g hg => hT.block g (hl g hg).1 (hl g hg).2⟩
 rcases c with c | c
 ·exact (hl g hg).2 c
 ·have := (hl g hg).1; omega
theorem One.write (h : One w0 w l x a n S most s) (hn : n < 100000000) (y v : Nat) (hy : y < 18446744073709551616) (hv : v < 18446744073709551616) :
  Calls Tryz.prog 11 #[.pointer (some ⟨a, 0, none⟩), .int .u64 y, .int .u64 v] w fun r w' => r = .returned (.int .i64 (errA S y)) ∧ One w0 w' l x a (n + 1) S most { s with f := wrF s.f S y v } ∧ Kp l w w' :=
 h.does (fun X hM => by
  obtain ⟨XM, XB, XT, tb, tr, pv, h⟩ := hM
  refine (h.write hn y v hy hv).mono ?_
  rintro r w' ⟨h1, h2, h3, -⟩
  exact ⟨h1, h2, h3⟩)
end
section
variable {w0 w w' : World} {l : List Nat} {S x a n n' z b m m' : Nat} {most : Int} {s s' s2 s2' : St}
end
def anA (i : Nat) : Nat := if i = 0 then 4096 else if i = 1 then 8192 else if i = 2 then 12288 else if i = 3 then 16392 else if i = 4 then 20496 else 0
def anV (i : Nat) : Nat := if i = 0 then 8195 else if i = 1 then 12291 else if i = 2 then 16387 else if i = 3 then 27021597764247363 else if i = 4 then 77 else 0
theorem an_lt : (∀ i, anA i < 18446744073709551616) ∧ ∀ i, anV i < 18446744073709551616 := by
 constructor
 ·intro i; unfold anA; repeat' split
  all_goals decide
 ·intro i; unfold anV; repeat' split
  all_goals decide
def aH : Hn := ⟨true, false, false⟩
def aN : Hn := ⟨false, false, false⟩
def aS0 : St := ⟨fW 1048576 anA anV 5, [], [], none, []⟩
def aS1 : St := setRg aS0 281474976714752
def aS2 : St := accS 1048576 4 aS1 1 4112 0 aH
def aS3 : St := { aS2 with f := wrF aS2.f 1048576 16392 0 }
def aS4 : St := accS 1048576 4 aS3 1 4112 0 aN
def aS5 : St := flVa aS4 1 4096
def aS6 : St := accS 1048576 4 aS5 1 4112 0 aN
theorem aE0 : setN 281474976714752 = 0 := by decide +kernel
theorem aE1 : accF (qai 1048576 aS1 4112 aH) 1 = (0, 0) ∧ accW aS1.f (qai 1048576 aS1 4112 aH) 1 4112 = 77 := by decide +kernel
theorem aE2 : errA 1048576 16392 = 0 := by decide +kernel
theorem aE3 : accF (qai 1048576 aS3 4112 aN) 1 = (0, 0) ∧ accW aS3.f (qai 1048576 aS3 4112 aN) 1 4112 = 77 := by decide +kernel
theorem aE4 : sndB 1048576 aS4 = false := by decide +kernel
theorem aE5 : accF (qai 1048576 aS5 4112 aN) 1 = (1, 3) ∧ accW aS5.f (qai 1048576 aS5 4112 aN) 1 4112 = 0 := by decide +kernel
theorem aE6 : sndB 1048576 aS6 = true := by decide +kernel
section
variable {w0 w : World} {l : List Nat} {x a n : Nat}
theorem an_set (h : One w0 w l x a n 1048576 4 aS0) : Calls Tryz.prog 8 #[.pointer (some ⟨x, 0, none⟩), .int .u64 281474976714752] w fun r w' => r = .returned (.int .i64 0) ∧ One w0 w' l x a n 1048576 4 aS1 ∧ Kp l w w' :=
 h.does (fun X h => by
  have := set_c h 281474976714752 (by decide)
  rw [aE0] at this
  exact this)
theorem an_acc1 (h : One w0 w l x a n 1048576 4 aS1) (hn : n < 100000000) : Calls Tryz.prog 9 #[.pointer (some ⟨x, 0, none⟩), .int .i64 1, .int .u64 4112, .int .u64 0, .agg #[.bool true, .bool false, .bool false]] w fun r w' => r = .returned (.agg #[.int .i64 0, .int .i64 0, .int .u64 77]) ∧ One w0 w' l x a (n + 1) 1048576 4 aS2 ∧ Kp l w w' :=
 h.does (fun X h => by
  have := access_c h hn 1 4112 0 (by decide) (by decide) aH
  rw [aE1.1, aE1.2] at this
  exact this)
theorem an_acc2 (h : One w0 w l x a n 1048576 4 aS3) (hn : n < 100000000) : Calls Tryz.prog 9 #[.pointer (some ⟨x, 0, none⟩), .int .i64 1, .int .u64 4112, .int .u64 0, .agg #[.bool false, .bool false, .bool false]] w fun r w' => r = .returned (.agg #[.int .i64 0, .int .i64 0, .int .u64 77]) ∧ One w0 w' l x a (n + 1) 1048576 4 aS4 ∧ Kp l w w' :=
 h.does (fun X h => by
  have := access_c h hn 1 4112 0 (by decide) (by decide) aN
  rw [aE3.1, aE3.2] at this
  exact this)
theorem an_acc3 (h : One w0 w l x a n 1048576 4 aS5) (hn : n < 100000000) : Calls Tryz.prog 9 #[.pointer (some ⟨x, 0, none⟩), .int .i64 1, .int .u64 4112, .int .u64 0, .agg #[.bool false, .bool false, .bool false]] w fun r w' => r = .returned (.agg #[.int .i64 1, .int .i64 3, .int .u64 0]) ∧ One w0 w' l x a (n + 1) 1048576 4 aS6 ∧ Kp l w w' :=
 h.does (fun X h => by
  have := access_c h hn 1 4112 0 (by decide) (by decide) aN
  rw [aE5.1, aE5.2] at this
  exact this)
theorem one_mem {S : Nat} {most : Int} {s : St} (h : One w0 w l x a n S most s) : Calls Tryz.prog 10 #[.pointer (some ⟨x, 0, none⟩)] w fun r w' => r = .returned (.pointer (some ⟨a, 0, none⟩)) ∧ w = w' := by
 obtain ⟨X, h, -⟩ := h
 exact memory_c h
theorem one_sound {S : Nat} {most : Int} {s : St} (h : One w0 w l x a n S most s) : Calls Tryz.prog 12 #[.pointer (some ⟨x, 0, none⟩)] w fun r w' => r = .returned (.bool (sndB S s)) ∧ Below w.heap.size w w' := by
 obtain ⟨X, h, -⟩ := h
 exact sound_c h
theorem an_wr (h : One w0 w l x a n 1048576 4 aS2) (hn : n < 100000000) : Calls Tryz.prog 11 #[.pointer (some ⟨a, 0, none⟩), .int .u64 16392, .int .u64 0] w fun r w' => r = .returned (.int .i64 0) ∧ One w0 w' l x a (n + 1) 1048576 4 aS3 ∧ Kp l w w' := by
 have := h.write hn 16392 0 (by decide) (by decide)
 rw [aE2] at this
 exact this
theorem an_fl (h : One w0 w l x a n 1048576 4 aS4) : Calls Tryz.prog 13 #[.pointer (some ⟨x, 0, none⟩), .int .i64 1, .int .u64 4096] w fun r w' => r = .returned (.tuple #[]) ∧ One w0 w' l x a n 1048576 4 aS5 ∧ Kp l w w' :=
 h.does (fun X h => qev h 1 4096 (by decide))
end
theorem anchor_any (w : World) (hF : FA w) :
  Calls Tryz.prog 4 #[] w fun e w' => e = .returned (.bool true) ∧ Below w.heap.size w w' := by
 have HF := Hid.mk hF
 clear hF
 go_enter Tryz.func4, Tryz.ntmps4
 go_wp2_with fail
 refine (opened_ok 5 5 (some ⟨w.heap.size, 0, none⟩) anA anV 4 (by decide) (by decide) (by decide) _ ⟨fun i hi => ⟨w.heap.size, 0, rfl, by simp, ?_⟩, an_lt.1, an_lt.2⟩ (HF.out.later (qac _ _))).mono ?_
 ·have h4 : i = 0 ∨ i = 1 ∨ i = 2 ∨ i = 3 ∨ i = 4 := by omega
  rcases h4 with rfl | rfl | rfl | rfl | rfl
  all_goals (constructor <;> simp [anA, anV])
 rintro e w1 ⟨x, a, v, rfl, hO⟩
 have hB0 := qac w (.cells #[.int .u64 4096, .int .u64 8195, .int .u64 8192, .int .u64 12291, .int .u64 12288, .int .u64 16387, .int .u64 16392, .int .u64 27021597764247363, .int .u64 20496, .int .u64 77] 46)
 obtain ⟨X, hM, L, hp, -⟩ := hO.mch
 have h1 : One _ w1 [] x a 61 1048576 4 aS0 := ⟨X, hM, fun g hg => absurd hg List.not_mem_nil⟩
 obtain ⟨p, c, rfl, -⟩ := hp.form
 have H1 := Hid.mk h1
 clear hO hM hp h1
 generalize L.length = N at *
 generalize hw9 : w.alloc _ = wC at *
 clear hw9
 go_wp2_with fail
 refine (an_set (H1.out.later (qac _ _))).mono ?_
 rintro e w2 ⟨rfl, h2, -⟩
 have H2 := Hid.mk h2
 clear h2 H1
 go_wp2_with fail
 refine (an_acc1 H2.out (by decide)).mono ?_
 rintro e w3 ⟨rfl, h3, -⟩
 have H3 := Hid.mk (h3.own (.cells #[.int .i64 0, .int .i64 0, .int .u64 77] 52))
 have g4 := heap_alloc_new w3 (.cells #[.int .i64 0, .int .i64 0, .int .u64 77] 52)
 clear h3 H2
 go_upto_region 5 with fail
 generalize w3.alloc (.cells #[.int .i64 0, .int .i64 0, .int .u64 77] 52) = w4 at *
 generalize w3.heap.size = B4 at *
 go_wp2_with fail
 refine (one_mem H3.out).mono ?_
 rintro e w5 ⟨rfl, e5⟩
 obtain rfl : w4 = w5 := e5
 go_wp2_with fail
 refine (an_wr H3.out (by decide)).mono ?_
 rintro e w5 ⟨rfl, h5, hk⟩
 have H5 := Hid.mk h5
 replace g4 := hk.row (by simp) g4
 clear h5 hk H3
 go_wp2_with fail
 refine (an_acc2 H5.out (by decide)).mono ?_
 rintro e w6 ⟨rfl, h6, hk⟩
 replace g4 := hk.row (by simp) g4
 have H6 := Hid.mk (h6.own (.cells #[.int .i64 0, .int .i64 0, .int .u64 77] 52))
 have g5 := heap_alloc_new w6 (.cells #[.int .i64 0, .int .i64 0, .int .u64 77] 52)
 have hb6 := qac w6 (.cells #[.int .i64 0, .int .i64 0, .int .u64 77] 52)
 clear h6 hk H5
 go_upto_region 7 with fail
 generalize w6.alloc (.cells #[.int .i64 0, .int .i64 0, .int .u64 77] 52) = w7 at *
 replace g4 := qaa hb6 g4
 clear hb6
 generalize w6.heap.size = B5 at *
 go_wp2_with fail
 refine (one_sound H6.out).mono ?_
 rintro e w8 ⟨rfl, hb8⟩
 rw [aE4]
 have H8 := Hid.mk (H6.out.later hb8)
 obtain ⟨g4, g5⟩ := bl2 hb8 g4 g5
 clear hb8 H6
 go_wp2_with fail
 refine (an_fl H8.out).mono ?_
 rintro e w9 ⟨rfl, h9, hk⟩
 replace g4 := hk.row (by simp) g4
 replace g5 := hk.row (by simp) g5
 have H9 := Hid.mk h9
 clear h9 hk H8
 go_wp2_with fail
 refine (an_acc3 H9.out (by decide)).mono ?_
 rintro e w10 ⟨rfl, h10, hk⟩
 replace g4 := hk.row (by simp) g4
 replace g5 := hk.row (by simp) g5
 have H10 := Hid.mk (h10.own (.cells #[.int .i64 1, .int .i64 3, .int .u64 0] 52))
 have g7 := heap_alloc_new w10 (.cells #[.int .i64 1, .int .i64 3, .int .u64 0] 52)
 have hb10 := qac w10 (.cells #[.int .i64 1, .int .i64 3, .int .u64 0] 52)
 clear h10 hk H9
 go_upto_region 10 with fail
 generalize w10.alloc (.cells #[.int .i64 1, .int .i64 3, .int .u64 0] 52) = w11 at *
 obtain ⟨g4, g5⟩ := bl2 hb10 g4 g5
 clear hb10
 generalize w10.heap.size = B7 at *
 obtain ⟨k0, k1, k2⟩ := qan g4
 obtain ⟨m0, m1, m2⟩ := qan g5
 obtain ⟨n0, n1, n2⟩ := qan g7
 go_wp2_with fail
 refine (one_sound H10.out).mono ?_
 rintro e w12 ⟨rfl, hb12⟩
 rw [aE6]
 have HB := Hid.mk (qab (qab hB0 H10.out.bl) hb12)
 clear k0 k1 k2 m0 m1 m2 n0 n1 n2 hb12 g4 g5 g7
 go_wp2
 go_ret
 exact ⟨rfl, HB.out⟩
end Go.Proofs.YtfdbdeckohaneaaGreatDoor.MM
