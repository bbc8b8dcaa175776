/- The walks of package desc, fourth part: the word of a descriptor. -/
import Derived.Test.YtndjhedoandinaaGreatDoorDescC
namespace Go.Proofs.YtndjhedoandinaaGreatDoor
open Go.RowKit

def orN (c : Bool) (y k : Nat) : Nat := if c = true then y ||| k else y
theorem orN_lt (c : Bool) {y k : Nat} (hy : y < 18446744073709551616) (hk : k < 18446744073709551616) : orN c y k < 18446744073709551616 := by
  unfold orN; cases c
  · exact hy
  · exact or_lt _ _ hy hk
theorem or_cast {y k : Nat} (hy : y < 18446744073709551616) (hk : k < 18446744073709551616) : bits BinOp.or IntKind.u64 (y : Int) (k : Int) = ((y ||| k : Nat) : Int) := bits_or_u64_nat _ _ hy hk

/-- The same of numbers as the walk has them. -/
def orI (c : Bool) (y k : Int) : Int := if c = true then bits BinOp.or IntKind.u64 y k else y
theorem orN_cast (c : Bool) {y k : Nat} (hy : y < 18446744073709551616) (hk : k < 18446744073709551616) : ((orN c y k : Nat) : Int) = orI c (y : Int) (k : Int) := by
  cases c
  · rfl
  · exact (or_cast hy hk).symm

/-- What blocks and pages have in common. -/
def leafP (o a : Nat) : Nat := putX 2 3 (o ||| 9007199254743808) a
def leafN (o : Nat) (u r x s : Bool) (a : Nat) : Nat := orN (!x) (orN s (orN (!r) (orN u (leafP o a) 64) 128) 1024) 18014398509481984
theorem right23 : rightB ((2 : Nat) : Int) ((3 : Nat) : Int) = true := by decide
theorem leafP_lt {o a : Nat} (ho : o < 18446744073709551616) (ha : a ≤ 7) : leafP o a < 18446744073709551616 :=
  putX_lt right23 (v := a) (by omega) (or_lt _ _ ho (by omega))

set_option maxHeartbeats 2000000 in
theorem leafWord_any (k : Int) (o : Nat) (u r x s : Bool) (a : Nat) (ho : o < 18446744073709551616) (ha : a ≤ 7) (w : World) (hF : Flds w) :
    Calls Tryz.prog 147 #[.agg #[.int .i64 k, .int .u64 o, .bool u, .bool r, .bool x, .bool s, .int .i64 (a : Int)]] w fun e w' => e = .returned (.int .u64 ((leafN o u r x s a : Nat) : Int)) ∧ Below w.heap.size w w' := by
  have hor : bits BinOp.or IntKind.u64 (o : Int) 9007199254743808 = ((o ||| 9007199254743808 : Nat) : Int) := or_cast (k := 9007199254743808) ho (by omega)
  have hol := or_lt o 9007199254743808 ho (by omega)
  have hwr : IntKind.u64.wrap (a : Int) = (a : Int) := by rw [IntKind.wrap_u64]; omega
  have hpl := leafP_lt ho ha
  have hE : putE 2 3 a = 0 := by unfold putE; rw [if_neg (by decide), if_neg]; have : ones 3 = 7 := by decide +kernel
                                 omega
  have hC := fun w1 => put_any 2 3 (o ||| 9007199254743808) a hol w1
  have c6 := fun ob => cell_alloc (o := ob) hF.a0
  have c7 := fun ob => cell_alloc (o := ob) hF.a1
  rw [hE] at hC
  change ∀ w1, Calls _ _ _ _ fun e w' => e = .returned (.tuple #[.int .u64 ((leafP o a : Nat) : Int), _]) ∧ _ at hC
  have HE : Hid (leafN o u r x s a = orN (!x) (orN s (orN (!r) (orN u (leafP o a) 64) 128) 1024) 18014398509481984) := rfl
  generalize leafP o a = p at *
  generalize o ||| 9007199254743808 = q at *
  have l1 := orN_lt u (k := 64) hpl (by omega)
  have l2 := orN_lt (!r) (k := 128) l1 (by omega)
  have l3 := orN_lt s (k := 1024) l2 (by omega)
  have HI : Hid (((leafN o u r x s a : Nat) : Int) = orI (!x) (orI s (orI (!r) (orI u (p : Int) 64) 128) 1024) 18014398509481984) := by
    show ((leafN o u r x s a : Nat) : Int) = _
    rw [HE.out, orN_cast _ l3 (by omega), orN_cast _ l2 (by omega), orN_cast _ l1 (by omega), orN_cast _ hpl (by omega)]; rfl
  clear HE l1 l2 l3 hpl
  go_enter Tryz.func147, Tryz.ntmps147
  go_wp2_with fail
  refine (hC _).mono ?_
  rintro e w1 ⟨rfl, hbm⟩
  have d2 : w1.cell? ⟨w.heap.size, 2, none⟩ = some (.bool u) := cell_later hbm (by simp)
  have d3 : w1.cell? ⟨w.heap.size, 3, none⟩ = some (.bool r) := cell_later hbm (by simp)
  have d4 : w1.cell? ⟨w.heap.size, 4, none⟩ = some (.bool x) := cell_later hbm (by simp)
  have d5 : w1.cell? ⟨w.heap.size, 5, none⟩ = some (.bool s) := cell_later hbm (by simp)
  have hB : Below w.heap.size w w1 := below_tr (below_new _ _) hbm
  clear hC hbm hF c6 c7 hE hwr hor hol ho ha
  go_wp2
  all_goals go_ret
  all_goals refine ⟨?_, hB⟩
  all_goals (rw [HI.out]; simp_all [orI]; done)
end Go.Proofs.YtndjhedoandinaaGreatDoor
