/- P25 -/
import Derived.Test.YtfdbdeckohaneaaGreatDoorP24
set_option maxHeartbeats 16000000
set_option maxRecDepth 100000
namespace Go.Proofs.YtfdbdeckohaneaaGreatDoor.TR
open Go.RowKit
theorem qfj {P : Program} {f : FuncId} {fn : Func} {c : Code} (hf : P.funcs[f]? = some fn) (hn : (fn.name == "runtime.NumGoroutine") = false) (hb : fn.body = some c) (args : Array Value) (w : World) : (callFunc f args).run P w = .ok (.enter f args) w := by
 have h1 : fn.name ≠ "runtime.NumGoroutine" := by simpa using hn
 simp [callFunc, hf, h1, hb, mark]
def qar (p : En → Bool) (l : List En) : List En := l.filter (fun e => !p e)
theorem keep_le (p : En → Bool) (l : List En) : (qar p l).length ≤ l.length := List.length_filter_le _ _
theorem flush_c {w : World} {X : Nat → Prop} {t : Nat} {most : Int} {l : List En} (h : Buf w X t most l) (hl : l.length ≤ 1000) (q : Nat) (lb : Array Value) (eg : ∀ args w, (callFunc q args).run Tryz.prog w = .ok (.enter q args) w) (p : En → Bool)
  (hp : ∀ W e, e ∈ l → Turn X w W → Calls Tryz.prog q (#[e.v] ++ lb) W fun r w' => r = .returned (.bool (p e)) ∧ Below W.heap.size W w') :
  Calls Tryz.prog 87 #[.pointer (some ⟨t, 0, none⟩), .func (.func q) #[] lb] w fun r w' => r = .returned (.int .i64 ((l.length : Int) - ((qar p l).length : Int))) ∧ Buf w' X t most (qar p l) ∧ Turn X w w' := by
 obtain ⟨v, h⟩ := h
 obtain ⟨-, c1⟩ := qaz h.row
 have HH := Hid.mk h
 have HOK : Hid (∀ e ∈ qar p l, e.okR) := fun e he => h.ok e (List.mem_filter.1 he).1
 have hlI : (l.length : Int) ≤ 1000 := by omega
 rcases h.own.2 with ⟨rfl, h0⟩ | ⟨g, cap, cur, rfl, hb, hg, h1, h2, h3, h4⟩
 ·obtain rfl := List.length_eq_zero_iff.1 h0
  have hI := qdw q lb eg p [] none 0 w (by decide) (RdA.nil _ _) (fun W e he hb => hp W e he (qak _ hb))
  have hD : Calls Tryz.prog 124 #[.slice none 0 0, .func (.func q) #[] lb] w fun r w' => r = .returned (.slice none 0 0) ∧ Below w.heap.size w w' := by
   clear c1 h hp
   go_enter Tryz.func124, Tryz.ntmps124
   go_wp2_with fail
   refine hI.mono ?_
   rintro e w1 ⟨⟨rfl, -⟩ | ⟨k, hk, -⟩, hb⟩
   ·clear hI
    go_wp2
    go_ret
    exact ⟨rfl, hb⟩
   ·exact absurd hk (by simp)
  clear h hp hI
  go_enter Tryz.func87, Tryz.ntmps87
  go_wp2_with fail
  refine hD.mono ?_
  rintro e w1 ⟨rfl, hb⟩
  have HB := Hid.mk hb
  have HR1 := Hid.mk (qaa hb HH.out.row)
  clear hD hb c1
  go_wp2_with (first
   | (refine qad rfl 85 _ _ rfl rfl t 1 _ #[.slice none 0 0] rfl rfl rfl 168 _ HR1.out (show 1 + 1 ≤ 2 by decide) info_sl (by simp [Value.oneCell']) #[.int .i64 most, .slice none 0 0] rfl ?_
      intro w8 hk8 ht8
      obtain ⟨c0, c1⟩ := qaz hk8)
   | fail)
  go_ret
  have hfin := HH.out.turned (v' := .slice none 0 0) (l' := []) (qak _ HB.out) (World.ownsRow_nil _ _ _ _) rfl hk8 ht8 (fun e he => by cases he)
  exact ⟨rfl, ⟨_, hfin.1⟩, hfin.2⟩
 ·have hcur : cur = rowE l (cur.toList.drop (l.length * 4)) := by
   unfold rowE
   rw [← h4, List.take_append_drop]
  rw [hcur] at hg h3
  have hgX := (h.xg g rfl)
  have hD := qep q lb eg p l g cap 0 _ w hl h1 h2 hb hg h3 (fun W e he ht => hp W e he ⟨ht.os, ht.tape, ht.output, ht.size, fun i hi hX => ht.block i hi (fun h5 => hX (by rw [h5]; exact hgX.1))⟩)
  have hle := keep_le p l
  have hleI : ((qar p l).length : Int) ≤ (l.length : Int) := by omega
  have hkI : (0 : Int) ≤ ((qar p l).length : Int) := by omega
  have hD2 : Calls Tryz.prog 124 #[.slice (some ⟨g, 0, none⟩) l.length cap, .func (.func q) #[] lb] w fun r w' => r = .returned (.slice (some ⟨g, 0, none⟩) (qar p l).length cap) ∧ w'.ownsRow 0 96 4 (.slice (some ⟨g, 0, none⟩) (qar p l).length cap) (qar p l).length (ecs (qar p l)) ∧ Turn (fun i => i = g) w w' := hD
  have HLE := Hid.mk hle
  clear h hp hg h1 h2 h3 h4 hcur hb hl hD hle
  have hne := hgX.2
  generalize qar p l = kl at *
  go_enter Tryz.func87, Tryz.ntmps87
  go_wp2_with fail
  refine hD2.mono ?_
  rintro e w1 ⟨rfl, ho, ht⟩
  have HR1 := Hid.mk (qae ht HH.out.row (fun h => hne h.symm))
  have HO := Hid.mk ho
  have HT := Hid.mk ht
  clear hD2 ho ht c1
  go_wp2_with (first
   | (refine qad rfl 85 _ _ rfl rfl t 1 _ #[.slice (some ⟨g, 0, none⟩) kl.length cap] rfl rfl rfl 168 _ HR1.out (show 1 + 1 ≤ 2 by decide) info_sl (by simp [Value.oneCell']) #[.int .i64 most, .slice (some ⟨g, 0, none⟩) kl.length cap] rfl ?_
      intro w8 hk8 ht8
      obtain ⟨c0, c1⟩ := qaz hk8)
   | fail)
  go_ret
  have hfin := HH.out.turned (v' := .slice (some ⟨g, 0, none⟩) kl.length cap) (Turn.mk HT.out.os HT.out.tape HT.out.output HT.out.size fun i hi hX => HT.out.block i hi fun h3 => hX (by rw [h3]; rfl)) HO.out rfl hk8 ht8 HOK.out
  exact ⟨rfl, ⟨_, hfin.1⟩, hfin.2⟩
theorem clo_va (e : En) (hl1 : 1 ≤ e.lv) (hl3 : e.lv ≤ 3) (i : Int) (x : Nat) (hx : x < 18446744073709551616) (B1 B2 : Nat) (W : World) (h1 : W.cell? ⟨B1, 0, none⟩ = some (.int .i64 i)) (h2 : W.cell? ⟨B2, 0, none⟩ = some (.int .u64 x)) :
  Calls Tryz.prog 88 #[e.v, .pointer (some ⟨B1, 0, none⟩), .pointer (some ⟨B2, 0, none⟩)] W fun r w' => r = .returned (.bool (mB e i x)) ∧ Below W.heap.size W w' := by
 have hM := fun w1 => qcm e hl1 hl3 i x hx w1
 have g1 := fun ob => qbf (o := ob) h1
 have g2 := fun ob => qbf (o := ob) h2
 generalize mB e i x = M at *
 obtain ⟨a0, a1, a2, a3⟩ := e
 simp only [En.v] at *
 clear h1 h2 hx hl1 hl3
 go_enter Tryz.func88, Tryz.ntmps88
 go_wp2_with fail
 refine (hM _).mono ?_
 rintro e w1 ⟨rfl, hb⟩
 clear hM g1 g2
 go_wp2
 go_ret
 exact ⟨rfl, qab (qac _ _) hb⟩
theorem clo_asid (e : En) (i : Int) (B1 : Nat) (W : World) (h1 : W.cell? ⟨B1, 0, none⟩ = some (.int .i64 i)) :
  Calls Tryz.prog 106 #[e.v, .pointer (some ⟨B1, 0, none⟩)] W fun r w' => r = .returned (.bool (decide (e.aid = i))) ∧ Below W.heap.size W w' := by
 have g1 := fun ob => qbf (o := ob) h1
 have HE : Hid (decide (e.aid = i) = (e.aid == i)) := by show _ = _; rw [Bool.eq_iff_iff, decide_eq_true_eq, beq_iff_eq]
 generalize decide (e.aid = i) = D at *
 obtain ⟨a0, a1, a2, a3⟩ := e
 simp only [En.v] at *
 clear h1
 go_enter Tryz.func106, Tryz.ntmps106
 go_wp2
 go_ret
 exact ⟨by rw [HE.out]; rfl, qac _ _⟩
theorem clo_all (e : En) (W : World) :
  Calls Tryz.prog 108 #[e.v] W fun r w' => r = .returned (.bool true) ∧ Below W.heap.size W w' := by
 obtain ⟨a0, a1, a2, a3⟩ := e
 simp only [En.v] at *
 go_enter Tryz.func108, Tryz.ntmps108
 go_wp2
 go_ret
 exact ⟨rfl, qac _ _⟩
theorem qam {w W : World} {X : Nat → Prop} {B i : Nat} {v : Value} (ht : Turn X w W) (hX : ¬ X B) (h : w.cell? ⟨B, i, none⟩ = some v) : W.cell? ⟨B, i, none⟩ = some v :=
 (World.cell?_of_block (a := ⟨B, i, none⟩) (ht.block B (World.block_lt_of_cell? w ⟨B, i, none⟩ h) hX)).trans h
theorem turn_pre {w w1 w2 : World} {X : Nat → Prop} (hb : Below w.heap.size w w1) (h : Turn X w1 w2) : Turn X w w2 := (qak X hb).trans h (fun _ _ h => h)
theorem zP25x01 {Z : Prop} (z : Z := by
 go_wp2_with fail
 refine hC.mono ?_
 rintro e w1 ⟨rfl, hb, ht⟩
 clear hC
 go_wp2
 go_ret
 first
 | exact ⟨rfl, hb, turn_pre HB.out ht⟩
 | exact ⟨rfl, hb, ht⟩) : Z := z
theorem qev {w : World} {X : Nat → Prop} {t : Nat} {most : Int} {l : List En} (h : Buf w X t most l) (hl : l.length ≤ 1000) (i : Int) (x : Nat) (hx : x < 18446744073709551616) :
  Calls Tryz.prog 50 #[.pointer (some ⟨t, 0, none⟩), .int .i64 i, .int .u64 x] w fun r w' => r = .returned (.int .i64 ((l.length : Int) - ((qar (fun e => mB e i x) l).length : Int))) ∧ Buf w' X t most (qar (fun e => mB e i x) l) ∧ Turn X w w' := by
 have hB := qab (qac w (.cells #[.int .i64 i] 3)) (qac (w.alloc (.cells #[.int .i64 i] 3)) (.cells #[.int .u64 x] 26))
 have hlt : ∀ i, X i → i < w.heap.size := by obtain ⟨v, h⟩ := h; exact h.lt
 have hok : ∀ e ∈ l, e.okR := by obtain ⟨v, h⟩ := h; exact h.ok
 have eg : ∀ args w, (callFunc 88 args).run Tryz.prog w = .ok (.enter 88 args) w := qfj Tryz.func88 (by kernel_rfl) rfl
 have hC := flush_c (h.later hB) hl 88 #[.pointer (some ⟨w.heap.size, 0, none⟩), .pointer (some ⟨w.heap.size + 1, 0, none⟩)] eg (fun e => mB e i x) (fun W e he ht => clo_va e (qej (hok e he).2).1 (qej (hok e he).2).2 i x hx w.heap.size (w.heap.size + 1) W
  (qam ht (fun hX => by have := hlt _ hX; omega) (cell_of_row _ _ _ _ _ _ (heap_alloc2_old w _ _)))
  (qam ht (fun hX => by have := hlt _ hX; omega) (cell_of_row _ _ _ _ _ _ (heap_alloc2_new w _ _))))
 generalize qar (fun e => mB e i x) l = kl at *
 have HB := Hid.mk hB
 clear hB h hlt eg hx hok
 go_enter Tryz.func50, Tryz.ntmps50
 exact zP25x01
theorem qcy {w : World} {X : Nat → Prop} {t : Nat} {most : Int} {l : List En} (h : Buf w X t most l) (hl : l.length ≤ 1000) (i : Int) :
  Calls Tryz.prog 67 #[.pointer (some ⟨t, 0, none⟩), .int .i64 i] w fun r w' => r = .returned (.int .i64 ((l.length : Int) - ((qar (fun e => decide (e.aid = i)) l).length : Int))) ∧ Buf w' X t most (qar (fun e => decide (e.aid = i)) l) ∧ Turn X w w' := by
 have hB := qac w (.cells #[.int .i64 i] 3)
 have hlt : ∀ i, X i → i < w.heap.size := by obtain ⟨v, h⟩ := h; exact h.lt
 have eg : ∀ args w, (callFunc 106 args).run Tryz.prog w = .ok (.enter 106 args) w := qfj Tryz.func106 (by kernel_rfl) rfl
 have hC := flush_c (h.later hB) hl 106 #[.pointer (some ⟨w.heap.size, 0, none⟩)] eg (fun e => decide (e.aid = i)) (fun W e _ ht => clo_asid e i w.heap.size W
  (qam ht (fun hX => by have := hlt _ hX; omega) (cell_of_row _ _ _ _ _ _ (heap_alloc_new w _))))
 generalize qar (fun e => decide (e.aid = i)) l = kl at *
 have HB := Hid.mk hB
 clear hB h hlt eg
 go_enter Tryz.func67, Tryz.ntmps67
 exact zP25x01
theorem keep_all (l : List En) : qar (fun _ => true) l = [] := by unfold qar; simp
theorem qet {w : World} {X : Nat → Prop} {t : Nat} {most : Int} {l : List En} (h : Buf w X t most l) (hl : l.length ≤ 1000) :
  Calls Tryz.prog 69 #[.pointer (some ⟨t, 0, none⟩)] w fun r w' => r = .returned (.int .i64 (l.length : Int)) ∧ Buf w' X t most [] ∧ Turn X w w' := by
 have eg : ∀ args w, (callFunc 108 args).run Tryz.prog w = .ok (.enter 108 args) w := qfj Tryz.func108 (by kernel_rfl) rfl
 have hC := flush_c h hl 108 #[] eg (fun _ => true) (fun W e _ _ => clo_all e W)
 rw [keep_all] at hC
 have hz : (l.length : Int) - (([] : List En).length : Int) = (l.length : Int) := by simp
 rw [hz] at hC
 clear h eg hz
 go_enter Tryz.func69, Tryz.ntmps69
 exact zP25x01
end Go.Proofs.YtfdbdeckohaneaaGreatDoor.TR
