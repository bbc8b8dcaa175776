/- Rows of entries, fourth part: clearing a row's end; the walk of DeleteFunc. -/
import Derived.Test.YtdpcbdbdacjcbaaDoorTrD
namespace Go.Proofs.YtdpcbdbdacjcbaaDoor.TR
open Go.RowKit

section
variable {ops : Array Oper} {rest : List Oper} {o : Oper} {a : Act} {Q : Exit → Act → World → Prop}
theorem zero_one (z : Array Value) (n : Nat) (h1 : ∀ u ∈ z.toList, u.oneCell' = true) (hz : z.size ≠ 0) : ∀ u ∈ (Builtin.zeroCells z n).toList, u.oneCell' = true := by
  intro u hu
  simp only [Builtin.zeroCells] at hu
  simp at hu
  obtain ⟨i, hi, rfl⟩ := hu
  have hlt : i % z.size < z.size := Nat.mod_lt _ (by omega)
  rw [getElem!_pos z _ hlt]
  exact h1 _ (by simp)
/-- 'clear' of entries at a row's end. -/
theorem wpList_clearE (w : World) (hgd : o.guard = none) (hd : o.dst = none) (x : Operand) (ho : o.op = .call { callee := .builtin .clear, args := #[x], argTypes := #[37] })
    (g q n c : Nat) (hn : 0 < n) (hx : a.eval x = .slice (some ⟨g, q, none⟩) n c) (cur : Array Value) (t : TypeId) (hg : w.heap[g]? = some (.cells cur t (0, 0))) (hfit : q + n * 4 ≤ cur.size)
    (h : ∀ wq zs, zs.length = n * 4 → wq.heap[g]? = some (.cells (segA cur q zs) t (0, 0)) → Turn (fun i => i = g) w wq → wpList Tryd.prog ops Q rest a wq) : wpList Tryd.prog ops Q (o :: rest) a w := by
  have hz : ∀ w, (zeroValue 31).run Tryd.prog w = .ok e0.v w := Tryd.zeroValue31
  have hzl : (Builtin.zeroCells e0.v.cells n).toList.length = n * 4 := by simp [Builtin.zeroCells, Value.cells]
  have hst := run_storeCells_at Tryd.prog g q t (Builtin.zeroCells e0.v.cells n).toList 0 cur w hg (by rw [hzl]; omega) (zero_one _ _ (e0.one) (by decide))
  simp only [Nat.add_zero] at hst
  have hrun : ∀ ty, (Builtin.clear_ #[37] ty #[.slice (some ⟨g, q, none⟩) n c]).run Tryd.prog w = .ok (.tuple #[]) (w.setRow g (segA cur q (Builtin.zeroCells e0.v.cells n).toList)) := fun ty => by
    obtain ⟨m, rfl⟩ : ∃ m, n = m + 1 := ⟨n - 1, by omega⟩
    simp only [Builtin.clear_]
    simp [run_underlying Tryd.underlying37, hz, hst, segA]
  refine wpList_plain hgd fun K hK => ?_
  unfold Oper.wp execOp
  simp only [ho, resolve, invoke, builtin, Sem.run_bind, Sem.run_pure, Result.andThen_ok, List.map_toArray, List.map_cons, List.map_nil, hx, hrun]
  refine hK _ _ ?_
  rw [hd]
  exact h _ _ hzl (setRow_heap _ _ _ _ _ _ hg) (turn_setRow _ _ _)
end

/-- A row: entries, and what lies behind them. -/
abbrev rowE (dk : List En) (rest : List Value) : Array Value := (ecs dk ++ rest).toArray
theorem rowE_rd {w : World} {g : Nat} {t : TypeId} {dk : List En} {rest : List Value} (h : w.heap[g]? = some (.cells (rowE dk rest) t (0, 0))) : RdA w (some ⟨g, 0, none⟩) dk := fun i hi => by
  refine ⟨g, 0, rfl, block_lt h, fun j u hu => ?_⟩
  have hj : j < 4 := by rw [← ((gE dk i)).len]; exact (List.getElem?_eq_some_iff.1 hu).1
  rw [cell_of_row _ _ _ _ _ _ h, List.getElem?_toArray, Nat.zero_add, List.getElem?_append_left (by rw [ecs_len]; omega), ecs_get dk i j hj hi]
  exact hu
theorem rowE_set (dk : List En) (rest : List Value) (i : Nat) (e : En) (hi : i < dk.length) : segA (rowE dk rest) (i * 4) e.cs = rowE (dk.set i e) rest := by
  unfold segA
  have e1 : dk.set i e = dk.take i ++ e :: dk.drop (i + 1) := List.set_eq_take_append_cons_drop.trans (if_pos hi)
  rw [e1]
  congr 1
  rw [ecs_app]
  show _ = ecs (dk.take i) ++ (e.cs ++ ecs (dk.drop (i + 1))) ++ rest
  rw [List.take_append_of_le_length (by rw [ecs_len]; omega), ecs_take, En.len, List.drop_append_of_le_length (by rw [ecs_len]; omega), show i * 4 + 4 = (i + 1) * 4 by omega, ecs_drop]
  simp only [List.append_assoc]

/-- Half way through: i are kept of the first j. -/
structure KInv (p : En → Bool) (l : List En) (j i : Nat) (dk : List En) : Prop where
  lt : i < j
  len : dk.length = l.length
  low : dk.take i = (l.take j).filter (fun e => !p e)
  high : dk.drop j = l.drop j
theorem take_succ_g (l : List En) (j : Nat) (hj : j < l.length) : l.take (j + 1) = l.take j ++ [(gE l j)] := by
  rw [List.take_add_one, List.getElem?_eq_getElem hj, gE_pos l j hj]; rfl
theorem filt0 {p : En → Bool} {y : En} (h : p y = true) : [y].filter (fun e => !p e) = [] := by simp [h]
theorem filt1 {p : En → Bool} {y : En} (h : p y = false) : [y].filter (fun e => !p e) = [y] := by simp [h]
theorem KInv.start {p : En → Bool} {l : List En} {k : Nat} (hk : k < l.length) (h1 : NoP p l k) (h2 : IsP p l k) : KInv p l (k + 1) k l := by
  refine ⟨by omega, rfl, ?_, rfl⟩
  rw [take_succ_g l k hk, List.filter_append]
  have e1 : [(gE l k)].filter (fun e => !p e) = [] := filt0 h2
  have e2 : (l.take k).filter (fun e => !p e) = l.take k := List.filter_eq_self.2 fun e he => by
    obtain ⟨j, hj, rfl⟩ := List.getElem_of_mem he
    have hjk : j < k := by simp at hj; omega
    have h3 := h1 j hjk
    rw [gE_pos l j (by omega)] at h3
    rw [List.getElem_take, h3]; rfl
  rw [e1, e2, List.append_nil]
theorem KInv.keep {p : En → Bool} {l : List En} {j i : Nat} {dk : List En} (h : KInv p l j i dk) (hj : j < l.length) (hp : p (gE l j) = false) : KInv p l (j + 1) (i + 1) (dk.set i (gE l j)) := by
  have hl := h.lt
  have hn := h.len
  refine ⟨by omega, by simpa using hn, ?_, ?_⟩
  · rw [take_succ_g l j hj, List.filter_append, ← h.low]
    have e1 : [(gE l j)].filter (fun e => !p e) = [(gE l j)] := filt1 hp
    rw [e1, List.take_add_one, List.take_set_of_le (by omega), List.getElem?_set_self (by omega)]
    rfl
  · have hd := congrArg (List.drop 1) h.high
    rw [List.drop_drop, List.drop_drop] at hd
    rw [List.drop_set_of_lt (by omega)]
    exact hd
theorem KInv.skip {p : En → Bool} {l : List En} {j i : Nat} {dk : List En} (h : KInv p l j i dk) (hj : j < l.length) (hp : p (gE l j) = true) : KInv p l (j + 1) i dk := by
  have hl := h.lt
  refine ⟨by omega, h.len, ?_, ?_⟩
  · rw [take_succ_g l j hj, List.filter_append, ← h.low]
    have e1 : [(gE l j)].filter (fun e => !p e) = [] := filt0 hp
    rw [e1, List.append_nil]
  · have hd := congrArg (List.drop 1) h.high
    rwa [List.drop_drop, List.drop_drop] at hd
theorem KInv.get {p : En → Bool} {l : List En} {j i : Nat} {dk : List En} (h : KInv p l j i dk) (hj : j < l.length) : (gE dk j) = (gE l j) := by
  have hn := h.len
  have h2 := congrArg (fun x => x[0]?) h.high
  simp only [List.getElem?_drop, Nat.add_zero] at h2
  rw [List.getElem?_eq_getElem hj, List.getElem?_eq_getElem (by omega : j < dk.length)] at h2
  rw [gE_pos l j hj, gE_pos dk j (by omega)]
  exact Option.some.inj h2
theorem KInv.done {p : En → Bool} {l : List En} {i : Nat} {dk : List En} (h : KInv p l l.length i dk) : dk.take i = l.filter (fun e => !p e) ∧ i = (l.filter (fun e => !p e)).length := by
  have h1 := h.low
  rw [List.take_length] at h1
  refine ⟨h1, ?_⟩
  rw [← h1, List.length_take, h.len]
  have := h.lt
  omega

/-- Behind DeleteFunc: the row has what is kept. -/
theorem own_kept {w : World} {base g : Nat} {t : TypeId} {cap n i : Nat} {dk : List En} {rest zs : List Value} (hb : base ≤ g) (hi : i ≤ n) (hn : n ≤ cap) (hcap : cap ≤ maxLen) (hd : dk.length = n) (hs : (rowE dk rest).size = cap * 4) (hz : zs.length = (n - i) * 4)
    (h : w.heap[g]? = some (.cells (segA (rowE dk rest) (i * 4) zs) t (0, 0))) : w.ownsRow base t 4 (.slice (some ⟨g, 0, none⟩) i cap) (dk.take i).length (ecs (dk.take i)) := by
  have hl : (dk.take i).length = i := by rw [List.length_take]; omega
  have hsz : (ecs dk ++ rest).length = cap * 4 := by simpa using hs
  refine ⟨by rw [ecs_len], Or.inr ⟨g, cap, _, by rw [hl], hb, h, by omega, hcap, ?_, ?_⟩⟩
  · unfold segA
    have h1 := ecs_len dk
    rw [List.size_toArray, List.length_append, List.length_append, List.length_take, List.length_drop, hsz, hz]
    rw [hd] at h1
    omega
  · unfold segA
    simp only
    rw [hl, List.append_assoc, List.take_append_of_le_length (by rw [List.length_take, hsz]; omega), List.take_take, Nat.min_self, List.take_append_of_le_length (by rw [ecs_len]; omega), ecs_take]

end Go.Proofs.YtdpcbdbdacjcbaaDoor.TR
