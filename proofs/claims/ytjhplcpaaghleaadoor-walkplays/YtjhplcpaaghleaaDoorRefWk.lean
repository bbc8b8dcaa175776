/- The document's walk: Size, From. -/
import Derived.Test.YtjhplcpaaghleaaDoorWalkF
import Derived.Test.YtjhplcpaaghleaaDoorRefDescE
import Derived.Test.YtjhplcpaaghleaaDoorPlayS
namespace Go.Proofs.YtjhplcpaaghleaaDoor
open Go.RowKit Go.Maps

set_option maxHeartbeats 1000000 in
theorem refSize_any (l : Int) (hl : isLv l = true) (w : World) :
    Calls Tryd.prog 28 #[.int .i64 l] w fun e w' => e = .returned (.int .u64 ((2 ^ lowK l : Nat) : Int)) ∧ Below w.heap.size w w' := by
  have hC := fun w1 => refLowK_any l hl w1
  have hk := lowK_eq hl
  have hk2 : lowK l ≤ 39 := hk.2.2.1
  generalize lowK l = N at *
  clear hk
  have hpow : ∀ i, i ≤ 39 → ((2 ^ i : Nat) : Int) ≤ 549755813888 := fun i hi => by
    have : 2 ^ i ≤ 2 ^ 39 := Nat.pow_le_pow_right (by decide) hi
    exact Int.ofNat_le.2 this
  have HP := Hid.mk hpow
  clear hpow
  go_enter Tryd.func28, Tryd.ntmps28
  go_wp2
  go_loopw [3, 4] (fun s3 s4 wr => ∃ i : Nat, i ≤ N ∧ s4 = .int .i64 (i : Nat) ∧ s3 = .int .u64 ((2 ^ i : Nat) : Int) ∧ Below w.heap.size w wr) (fun _ s4 _ => N - (intOf s4).toNat)
  case atStart => exact ⟨0, by omega, rfl, rfl, Below.refl _ _⟩
  case round =>
    obtain ⟨i, hi, rfl, rfl, hb⟩ := hrel
    go_wp2_with fail
    refine (hC _).mono ?_
    rintro e w1 ⟨rfl, hb1⟩
    by_cases hlt : i < N
    · have hlt2 : (i : Int) < N := by omega
      have h1 := HP.out (i + 1) (by omega)
      have HE : Hid (((2 ^ (i + 1) : Nat) : Int) = ((2 ^ i : Nat) : Int) + ((2 ^ i : Nat) : Int)) := by show _ = _; rw [Nat.pow_succ]; omega
      have h2 : ((2 ^ i : Nat) : Int) + ((2 ^ i : Nat) : Int) < 18446744073709551616 := by rw [← HE.out]; omega
      have h3 : (0 : Int) ≤ ((2 ^ i : Nat) : Int) := Int.natCast_nonneg _
      clear h1
      generalize ((2 ^ i : Nat) : Int) = q at *
      go_wp2
      exact ⟨⟨i + 1, by omega, by go_num, by rw [HE.out], below_tr hb hb1⟩, by simp [intOf]; omega⟩
    · obtain rfl : i = N := by omega
      go_wp2
      go_ret
      exact ⟨rfl, below_tr hb hb1⟩

theorem info_s6 : (Tryd.prog.info? 49).map (fun i => (i.zero, i.size, i.bytes)) = some (some (.agg #[.int .u64 0, .int .u64 0]), 2, 16) := by kernel_rfl
def Own6 (w : World) (base : Nat) (v : Value) (L : WL) : Prop := w.ownsRow base 49 2 v L.length (pcs L)
theorem Own6.alloc {w : World} {base : Nat} {v : Value} {L : WL} (h : Own6 w base v L) (o : Obj) : Own6 (w.alloc o) base v L := World.ownsRow.alloc h o
theorem Own6.lt {w : World} {base : Nat} {v : Value} {L : WL} (h : Own6 w base v L) : ∀ g, v.ownBlock = some g → base ≤ g ∧ g < w.heap.size := World.ownsRow.lt h
theorem Own6.one {w : World} {base : Nat} {v : Value} {L : WL} (h : Own6 w base v L) : v.oneCell' = true := by
  rcases h.2 with ⟨rfl, _⟩ | ⟨g, cap, cur, rfl, _⟩ <;> rfl
theorem Own6.kept {w w' : World} {base : Nat} {v : Value} {L : WL} (h : Own6 w base v L) (hk : ∀ g, base ≤ g → g < w.heap.size → w'.heap[g]? = w.heap[g]?) : Own6 w' base v L := by
  refine ⟨h.1, ?_⟩
  rcases h.2 with q | ⟨g, cap, cur, hv, hbase, hb, rest⟩
  · exact Or.inl q
  · exact Or.inr ⟨g, cap, cur, hv, hbase, (hk g hbase (block_lt hb)).trans hb, rest⟩
theorem Own6.later {w w' : World} {base : Nat} {v : Value} {L : WL} (h : Own6 w base v L) (hb : Below w.heap.size w w') : Own6 w' base v L := h.kept (fun g _ hl => hb.block g hl)
theorem Own6.turn {w w' : World} {base b : Nat} {v : Value} {L : WL} (h : Own6 w base v L) (ht : Turn (fun i => i = b) w w') (hb : b < base) : Own6 w' base v L := h.kept (fun g h1 hl => ht.block g hl (fun c => by omega))

theorem wpList_app6 (w : World) {ops : Array Oper} {rest : List Oper} {o : Oper} {a : Act} {Q : Exit → Act → World → Prop} (hg : o.guard = none) (s x : Operand) (hop : o.op = .call { callee := .builtin .append, args := #[s, x], argTypes := #[42, 42] })
    (base : Nat) (v : Value) (L : WL) (hs : a.eval s = v) (hown : Own6 w base v L) (y z bb : Nat) (hx : a.eval x = .slice (some ⟨bb, 0, none⟩) 1 1) (hc : w.heap[bb]? = some (.cells #[.int .u64 (y : Nat), .int .u64 (z : Nat)] 49)) (hlen : L.length < 100000000) (hbase : base ≤ w.heap.size)
    (h : ∀ g cap w', Own6 w' base (.slice (some ⟨g, 0, none⟩) (L.length + 1) cap) (L ++ [(y, z)]) → w.grownBy w' v.ownBlock → wpList Tryd.prog ops Q rest (a.put o.dst (.slice (some ⟨g, 0, none⟩) (L.length + 1) cap)) w') :
    wpList Tryd.prog ops Q (o :: rest) a w := by
  obtain ⟨i0, hi, hz0, hz1, hz2⟩ := info_parts info_s6
  refine wpList_append_lies w hg s x 42 hop base 49 i0 _ 2 16 Tryd.underlying42 hi hz0 hz1 hz2 rfl (by decide) v L.length (pcs L) hs hown ⟨bb, 0, none⟩ 1 1 [.int .u64 (y : Nat), .int .u64 (z : Nat)] hx rfl (World.news_of_block (cs := #[.int .u64 (y : Nat), .int .u64 (z : Nat)]) (t := 49) (fr := (0, 0)) hc) (by simp [Value.oneCell']) (by decide) (by unfold maxLen; omega) (by omega) hbase _ rfl ?_
  intro g cap w' hown' hgrow _ _
  refine h g cap w' ?_ hgrow
  show w'.ownsRow _ _ _ _ (L ++ [(y, z)]).length (pcs (L ++ [(y, z)]))
  rw [pcs_append, List.length_append]
  exact hown'

theorem info_L : (Tryd.prog.info? 44).map (·.size) = some 11 := by kernel_rfl
theorem info_F : (Tryd.prog.info? 41).map (·.size) = some 2 := by kernel_rfl
theorem info_D : (Tryd.prog.info? 40).map (·.size) = some 7 := by kernel_rfl
theorem info_sl6 : (Tryd.prog.info? 42).map (·.size) = some 1 := by kernel_rfl
/-- The document's result as cells. -/
def l11 (k o' : List Value) (v : Value) : List Value := k ++ (o' ++ [v])
def zero11 (fk fl : Int) (v : Value) : Array Value := #[.int .i64 0, .int .i64 0, .int .u64 0, .bool false, .bool false, .bool false, .bool false, .int .i64 0, .int .i64 fk, .int .i64 fl, v]
theorem zero11_eq (fk fl : Int) (v : Value) : zero11 fk fl v = (l11 zL [.int .i64 fk, .int .i64 fl] v).toArray := rfl
theorem zero11_one (fk fl : Int) {v : Value} (h : v.oneCell' = true) : (zero11 fk fl v).all (·.oneCell') = true := all_oneCell_toArray (fun u hu => by
  simp only [List.mem_cons, List.not_mem_nil, or_false] at hu
  rcases hu with rfl | rfl | rfl | rfl | rfl | rfl | rfl | rfl | rfl | rfl | rfl
  all_goals first | rfl | exact h)
theorem leaf11_one (l kk : Int) (oo : Nat) (eU eR eX eS : Bool) (eA : Int) {v : Value} (h : v.oneCell' = true) : (#[.int .i64 l, .int .i64 kk, .int .u64 (oo : Nat), .bool eU, .bool eR, .bool eX, .bool eS, .int .i64 eA, .int .i64 0, .int .i64 0, v] : Array Value).all (·.oneCell') = true := all_oneCell_toArray (fun u hu => by
  simp only [List.mem_cons, List.not_mem_nil, or_false] at hu
  rcases hu with rfl | rfl | rfl | rfl | rfl | rfl | rfl | rfl | rfl | rfl | rfl
  all_goals first | rfl | exact h)
theorem grown_block {w w' : World} {base j : Nat} {v : Value} {L : WL} {o ob : Obj} (hown : Own6 w base v L) (hg : (w.alloc o).grownBy w' v.ownBlock) (h : w.heap[j]? = some ob) (hj : j < base) : w'.heap[j]? = some ob := by
  have h2 := block_later (below_new w o) h
  exact (hg.block j (block_lt h2) (fun c => by have := (hown.lt j c.symm).1; omega)).trans h2
theorem grown_below {w0 w w' : World} {base : Nat} {v : Value} {L : WL} {o : Obj} (hown : Own6 w base v L) (hg : (w.alloc o).grownBy w' v.ownBlock) (hB : Below w0.heap.size w0 w) (hb : w0.heap.size ≤ base) : Below w0.heap.size w0 w' := by
  have hs := hB.size
  exact (hB.alloc hs o).grown hg (by simp; omega) (fun q hq => Nat.le_trans hb (hown.lt q hq).1)
end Go.Proofs.YtjhplcpaaghleaaDoor
