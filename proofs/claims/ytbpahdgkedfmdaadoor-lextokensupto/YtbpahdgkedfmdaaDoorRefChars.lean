/- The walk of the document's chars: a text's characters, by its own decoder. -/
import Derived.Test.YtbpahdgkedfmdaaDoorRefLexA
import Derived.Deep.AppendLies
import Derived.OwnWalk
namespace Go.Proofs.YtbpahdgkedfmdaaDoor
open Go.RowKit Go.Lib

theorem info_int : (Tryd.prog.info? 3).map (fun i => (i.zero, i.size, i.bytes)) = some (some (.int .i64 0), 1, 8) := by kernel_rfl
/-- The numbers of characters, as cells. -/
def intCells (rs : List Nat) : List Value := rs.map fun (r : Nat) => Value.int .i64 (r : Int)
def charsOf (l : List UInt8) : List Nat := if validD l = true then (chs l).map (·.1) else []

/-- What chars knows at the byte i. -/
structure Cs (w : World) (s : ByteArray) (i : Nat) (v : Value) (done : List Nat) (wr : World) : Prop where
  owns : wr.ownsRow w.heap.size 3 1 v done.length (intCells done)
  below : Below w.heap.size w wr
  hi : i ≤ s.size
  len : done.length ≤ i
  val : validD s.data.toList = validD (s.data.toList.drop i)
  all : (chs s.data.toList).map (·.1) = done ++ (chs (s.data.toList.drop i)).map (·.1)

theorem byteAt (s : ByteArray) (i : Nat) (h : i < s.size) : (s.data.toList.getD i 0).toNat = (s[i]'h).toNat := by
  rw [getD_get!', Utf8W.get!_of_lt s i h]
theorem Cs.bad {w wr : World} {s : ByteArray} {i : Nat} {v : Value} {done : List Nat} (h : Cs w s i v done wr) (hi : i < s.size) (hd : Utf8.decode s i = (65533, 1)) : validD s.data.toList = false := by
  rw [h.val, validD_step _ (drop_ne s i hi), decodeL_drop, hd]
  simp
theorem Cs.next {w wr w1 : World} {s : ByteArray} {i r n : Nat} {v v' : Value} {done : List Nat} {R : Int} (h : Cs w s i v done wr) (hi : i < s.size) (hd : Utf8.decode s i = (r, n)) (hne : ¬ (r = 65533 ∧ n = 1)) (hn : i + n ≤ s.size) (h1 : 1 ≤ n)
    (ho : w1.ownsRow w.heap.size 3 1 v' (done.length + 1) (intCells done ++ [.int .i64 R])) (hR : R = (r : Int)) (hb : Below w.heap.size w w1) : Cs w s (i + n) v' (done ++ [r]) w1 := by
  subst hR
  have hl := h.len
  refine ⟨?_, hb, hn, by simp; omega, ?_, ?_⟩
  · have e : intCells (done ++ [r]) = intCells done ++ [.int .i64 r] := by simp [intCells]
    rw [e, List.length_append]
    exact ho
  · rw [h.val, validD_step _ (drop_ne s i hi), decodeL_drop, hd]
    simp only
    rw [if_neg hne, List.drop_drop]
  · rw [h.all, chs_step _ (drop_ne s i hi), decodeL_drop, hd, List.drop_drop]
    simp

theorem left_none {w w' : World} {l : List UInt8} (h : validD l = false) (hb : Below w.heap.size w w') :
    ∃ v, Ending.returned (.tuple #[.slice none 0 0, .bool false]) = .returned (.tuple #[v, .bool false]) ∧ w'.ownsRow w.heap.size 3 1 v (charsOf l).length (intCells (charsOf l)) ∧ Below w.heap.size w w' := by
  have e : charsOf l = [] := by unfold charsOf; rw [h]; rfl
  rw [e]
  exact ⟨_, rfl, World.ownsRow_nil _ _ _ _, hb⟩

set_option maxRecDepth 100000 in
set_option maxHeartbeats 16000000 in
theorem chars_any (s : ByteArray) (w : World) (hs : s.size ≤ 1048576) :
    Calls Tryd.prog 22 #[.string s] w fun e w' => ∃ v, e = .returned (.tuple #[v, .bool (validD s.data.toList)]) ∧ w'.ownsRow w.heap.size 3 1 v (charsOf s.data.toList).length (intCells (charsOf s.data.toList)) ∧ Below w.heap.size w w' := by
  obtain ⟨i0, hi0, hz0, hz1, hz2⟩ := info_parts info_int
  go_enter Tryd.func22, Tryd.ntmps22
  go_wp2
  go_loopw [4, 5] (fun o ii wr => ∃ (i : Nat) (done : List Nat), ii = .int .i64 i ∧ Cs w s i o done wr) (fun _ ii _ => s.size - (RowKit.intOf ii).toNat)
  case atStart => exact ⟨0, [], rfl, World.ownsRow_nil _ _ _ _, Below.refl _ _, by omega, by simp, by simp, by simp⟩
  case round =>
    obtain ⟨i, done, rfl, hC⟩ := hrel
    have hi := hC.hi
    have hl := hC.len
    by_cases hlt : i < s.size
    · have hd := decode_N s i
      have hlen : s.data.toList.length = s.size := (size_eq s).symm
      rw [hlen] at hd
      have b0 := byteAt s i hlt
      have hb0 : (s[i]'hlt).toNat < 256 := UInt8.toNat_lt _
      have hG0 : ∀ h : i < s.size, (s[i]'h).toNat = (s.data.toList.getD i 0).toNat := fun h => (byteAt s i h).symm
      have hG1 : ∀ h : i + 1 < s.size, (s[i + 1]'h).toNat = (s.data.toList.getD (i + 1) 0).toNat := fun h => (byteAt s (i + 1) h).symm
      have hG2 : ∀ h : i + 2 < s.size, (s[i + 2]'h).toNat = (s.data.toList.getD (i + 2) 0).toNat := fun h => (byteAt s (i + 2) h).symm
      have hG3 : ∀ h : i + 3 < s.size, (s[i + 3]'h).toNat = (s.data.toList.getD (i + 3) 0).toNat := fun h => (byteAt s (i + 3) h).symm
      rw [← b0] at hb0
      have hb1 : (s.data.toList.getD (i + 1) 0).toNat < 256 := UInt8.toNat_lt _
      have hb2 : (s.data.toList.getD (i + 2) 0).toNat < 256 := UInt8.toNat_lt _
      have hb3 : (s.data.toList.getD (i + 3) 0).toNat < 256 := UInt8.toNat_lt _
      clear b0 hlen
      have HC : Hid (Cs w s i u4 done wr) := hC
      have hown := hC.owns
      generalize (s.data.toList.getD i 0).toNat = c0 at *
      generalize (s.data.toList.getD (i + 1) 0).toNat = c1 at *
      generalize (s.data.toList.getD (i + 2) 0).toNat = c2 at *
      generalize (s.data.toList.getD (i + 3) 0).toNat = c3 at *
      have HD : Hid (Utf8.decode s i = decodeN (s.size - i) c0 c1 c2 c3) := hd
      have hbel := hC.below.size
      clear hC hd
      have hik : (0 : Int) ≤ (i : Int) := by omega
      have hiz : (i : Int) < (s.size : Int) := by omega
      have hbig : done.length + 1 ≤ maxLen := by unfold maxLen; omega
      by_cases hA : c0 < 128
      · have hAz : (c0 : Int) < 128 := by omega
        go_wp2_with fail
        refine wp_loop_rounds 4 ?_
        repeat any_goals (rw [rounds_succ]; go_wp2_with (at_builtin; refine wpList_append_lies _ rfl (.tmp 96) (.tmp 98) 43 rfl w.heap.size 3 i0 (.int .i64 0) 1 8 Tryd.underlying43 hi0 hz0 hz1 hz2 rfl (by omega) u4 done.length (intCells done) rfl (hown.alloc _) ⟨wr.heap.size, 0, none⟩ 1 1 [.int .i64 _] rfl rfl (World.news_of_block (cs := #[.int .i64 _]) (t := 3) (fr := (0, 0)) (heap_alloc_new wr _)) (by simp [Value.oneCell']) (by omega) hbig (by omega) (by simp; omega) (wr.heap.size + 1) (by simp) ?_; intro g cap w1 hown1 hgrow hat' hlt'))
        go_wp2
        go_roundw
        case rel =>
          refine ⟨i + 1, done ++ [c0], by go_num, HC.out.next hlt ?_ (by omega) (by omega) (by omega) hown1 (by omega) (((HC.out.below.alloc hbel _).grown hgrow (by simp; omega) (fun q hq => (hown.lt q hq).1)))⟩
          rw [HD.out]
          exact decodeN_ascii _ _ _ _ _ hA
        case measure => simp [RowKit.intOf]; omega
      have hAz : (128 : Int) ≤ (c0 : Int) := by omega
      rcases (by omega : c0 < 192 ∨ (192 ≤ c0 ∧ c0 < 224) ∨ (224 ≤ c0 ∧ c0 < 240) ∨ (240 ≤ c0 ∧ c0 < 248) ∨ 248 ≤ c0) with hB | hB | hB | hB | hB
      · have m1 : (c0 : Int) < 192 := by omega
        have HF : Hid (validD s.data.toList = false) := HC.out.bad hlt (by
          rw [HD.out]
          rcases decodeN_shape (s.size - i) c0 c1 c2 c3 with h | h | h | h | h
          · exfalso; omega
          · exfalso; omega
          · exfalso; omega
          · exfalso; omega
          · exact h)
        go_wp2
        go_ret2
        rw [HF.out]
        exact left_none HF.out HC.out.below
      · have m1 : (192 : Int) ≤ (c0 : Int) := by omega
        have m2 : (c0 : Int) < 224 := by omega
        by_cases n1 : i + 1 < s.size
        · have z1 : (i : Int) + 1 < (s.size : Int) := by omega
          by_cases l1 : c1 < 128
          · have y1 : (c1 : Int) < 128 := by omega
            have HF : Hid (validD s.data.toList = false) := HC.out.bad hlt (by
              rw [HD.out]
              rcases decodeN_shape (s.size - i) c0 c1 c2 c3 with h | h | h | h | h
              · exfalso; omega
              · exfalso; omega
              · exfalso; omega
              · exfalso; omega
              · exact h)
            go_wp2_with fail
            refine wp_loop_rounds 4 ?_
            repeat any_goals (rw [rounds_succ]; go_wp2)
            go_ret2
            rw [HF.out]
            exact left_none HF.out HC.out.below
          · have y1 : (128 : Int) ≤ (c1 : Int) := by omega
            by_cases u1 : c1 ≤ 191
            · have x1 : (c1 : Int) ≤ 191 := by omega
              by_cases q : c0 % 32 * 64 + c1 % 64 < 128
              · have q1 : 64 * ((c0 : Int) - 192) + (c1 : Int) - 128 < 128 := by omega
                have HF : Hid (validD s.data.toList = false) := HC.out.bad hlt (by
                  rw [HD.out]
                  rcases decodeN_shape (s.size - i) c0 c1 c2 c3 with h | h | h | h | h
                  · exfalso; omega
                  · exfalso; omega
                  · exfalso; omega
                  · exfalso; omega
                  · exact h)
                go_wp2_with fail
                refine wp_loop_rounds 4 ?_
                repeat any_goals (rw [rounds_succ]; go_wp2)
                go_ret2
                rw [HF.out]
                exact left_none HF.out HC.out.below
              · have q1 : (128 : Int) ≤ 64 * ((c0 : Int) - 192) + (c1 : Int) - 128 := by omega
                have q2 : 64 * ((c0 : Int) - 192) + (c1 : Int) - 128 ≤ 1114111 := by omega
                have q3 : 64 * ((c0 : Int) - 192) + (c1 : Int) - 128 < 55296 := by omega
                go_wp2_with fail
                refine wp_loop_rounds 4 ?_
                repeat any_goals (rw [rounds_succ]; go_wp2_with (at_builtin; refine wpList_append_lies _ rfl (.tmp 96) (.tmp 98) 43 rfl w.heap.size 3 i0 (.int .i64 0) 1 8 Tryd.underlying43 hi0 hz0 hz1 hz2 rfl (by omega) u4 done.length (intCells done) rfl (hown.alloc _) ⟨wr.heap.size, 0, none⟩ 1 1 [.int .i64 _] rfl rfl (World.news_of_block (cs := #[.int .i64 _]) (t := 3) (fr := (0, 0)) (heap_alloc_new wr _)) (by simp [Value.oneCell']) (by omega) hbig (by omega) (by simp; omega) (wr.heap.size + 1) (by simp) ?_; intro g cap w1 hown1 hgrow hat' hlt'))
                go_wp2
                go_roundw
                case rel =>
                  refine ⟨i + 2, done ++ [c0 % 32 * 64 + c1 % 64], by go_num, HC.out.next hlt ?_ (by omega) (by omega) (by omega) hown1 (by omega) (((HC.out.below.alloc hbel _).grown hgrow (by simp; omega) (fun q hq => (hown.lt q hq).1)))⟩
                  rw [HD.out]
                  unfold decodeN; rw [if_neg (by omega), if_pos (by omega), if_pos (by omega)]
                case measure => simp [RowKit.intOf]; omega
            · have x1 : (191 : Int) < (c1 : Int) := by omega
              have HF : Hid (validD s.data.toList = false) := HC.out.bad hlt (by
                rw [HD.out]
                rcases decodeN_shape (s.size - i) c0 c1 c2 c3 with h | h | h | h | h
                · exfalso; omega
                · exfalso; omega
                · exfalso; omega
                · exfalso; omega
                · exact h)
              go_wp2_with fail
              refine wp_loop_rounds 4 ?_
              repeat any_goals (rw [rounds_succ]; go_wp2)
              go_ret2
              rw [HF.out]
              exact left_none HF.out HC.out.below
        · have z1 : (s.size : Int) ≤ (i : Int) + 1 := by omega
          have HF : Hid (validD s.data.toList = false) := HC.out.bad hlt (by
            rw [HD.out]
            rcases decodeN_shape (s.size - i) c0 c1 c2 c3 with h | h | h | h | h
            · exfalso; omega
            · exfalso; omega
            · exfalso; omega
            · exfalso; omega
            · exact h)
          go_wp2_with fail
          refine wp_loop_rounds 4 ?_
          repeat any_goals (rw [rounds_succ]; go_wp2)
          go_ret2
          rw [HF.out]
          exact left_none HF.out HC.out.below
      · have m1 : (224 : Int) ≤ (c0 : Int) := by omega
        have m2 : (c0 : Int) < 240 := by omega
        by_cases n1 : i + 1 < s.size
        · have z1 : (i : Int) + 1 < (s.size : Int) := by omega
          by_cases l1 : c1 < 128
          · have y1 : (c1 : Int) < 128 := by omega
            have HF : Hid (validD s.data.toList = false) := HC.out.bad hlt (by
              rw [HD.out]
              rcases decodeN_shape (s.size - i) c0 c1 c2 c3 with h | h | h | h | h
              · exfalso; omega
              · exfalso; omega
              · exfalso; omega
              · exfalso; omega
              · exact h)
            go_wp2_with fail
            refine wp_loop_rounds 4 ?_
            repeat any_goals (rw [rounds_succ]; go_wp2)
            go_ret2
            rw [HF.out]
            exact left_none HF.out HC.out.below
          · have y1 : (128 : Int) ≤ (c1 : Int) := by omega
            by_cases u1 : c1 ≤ 191
            · have x1 : (c1 : Int) ≤ 191 := by omega
              by_cases n2 : i + 2 < s.size
              · have z2 : (i : Int) + 2 < (s.size : Int) := by omega
                by_cases l2 : c2 < 128
                · have y2 : (c2 : Int) < 128 := by omega
                  have HF : Hid (validD s.data.toList = false) := HC.out.bad hlt (by
                    rw [HD.out]
                    rcases decodeN_shape (s.size - i) c0 c1 c2 c3 with h | h | h | h | h
                    · exfalso; omega
                    · exfalso; omega
                    · exfalso; omega
                    · exfalso; omega
                    · exact h)
                  go_wp2_with fail
                  refine wp_loop_rounds 4 ?_
                  repeat any_goals (rw [rounds_succ]; go_wp2)
                  go_ret2
                  rw [HF.out]
                  exact left_none HF.out HC.out.below
                · have y2 : (128 : Int) ≤ (c2 : Int) := by omega
                  by_cases u2 : c2 ≤ 191
                  · have x2 : (c2 : Int) ≤ 191 := by omega
                    by_cases q : c0 % 16 * 4096 + c1 % 64 * 64 + c2 % 64 < 2048
                    · have q1 : 64 * (64 * ((c0 : Int) - 224) + (c1 : Int) - 128) + (c2 : Int) - 128 < 2048 := by omega
                      have HF : Hid (validD s.data.toList = false) := HC.out.bad hlt (by
                        rw [HD.out]
                        rcases decodeN_shape (s.size - i) c0 c1 c2 c3 with h | h | h | h | h
                        · exfalso; omega
                        · exfalso; omega
                        · exfalso; omega
                        · exfalso; omega
                        · exact h)
                      go_wp2_with fail
                      refine wp_loop_rounds 4 ?_
                      repeat any_goals (rw [rounds_succ]; go_wp2)
                      go_ret2
                      rw [HF.out]
                      exact left_none HF.out HC.out.below
                    · have q1 : (2048 : Int) ≤ 64 * (64 * ((c0 : Int) - 224) + (c1 : Int) - 128) + (c2 : Int) - 128 := by omega
                      have q2 : 64 * (64 * ((c0 : Int) - 224) + (c1 : Int) - 128) + (c2 : Int) - 128 ≤ 1114111 := by omega
                      by_cases p1 : c0 % 16 * 4096 + c1 % 64 * 64 + c2 % 64 < 55296
                      · have q3 : 64 * (64 * ((c0 : Int) - 224) + (c1 : Int) - 128) + (c2 : Int) - 128 < 55296 := by omega
                        go_wp2_with fail
                        refine wp_loop_rounds 4 ?_
                        repeat any_goals (rw [rounds_succ]; go_wp2_with (at_builtin; refine wpList_append_lies _ rfl (.tmp 96) (.tmp 98) 43 rfl w.heap.size 3 i0 (.int .i64 0) 1 8 Tryd.underlying43 hi0 hz0 hz1 hz2 rfl (by omega) u4 done.length (intCells done) rfl (hown.alloc _) ⟨wr.heap.size, 0, none⟩ 1 1 [.int .i64 _] rfl rfl (World.news_of_block (cs := #[.int .i64 _]) (t := 3) (fr := (0, 0)) (heap_alloc_new wr _)) (by simp [Value.oneCell']) (by omega) hbig (by omega) (by simp; omega) (wr.heap.size + 1) (by simp) ?_; intro g cap w1 hown1 hgrow hat' hlt'))
                        go_wp2
                        go_roundw
                        case rel =>
                          refine ⟨i + 3, done ++ [c0 % 16 * 4096 + c1 % 64 * 64 + c2 % 64], by go_num, HC.out.next hlt ?_ (by omega) (by omega) (by omega) hown1 (by omega) (((HC.out.below.alloc hbel _).grown hgrow (by simp; omega) (fun q hq => (hown.lt q hq).1)))⟩
                          rw [HD.out]
                          unfold decodeN; rw [if_neg (by omega), if_neg (by omega), if_pos (by omega), if_pos (by omega)]
                        case measure => simp [RowKit.intOf]; omega
                      · have q3 : (55296 : Int) ≤ 64 * (64 * ((c0 : Int) - 224) + (c1 : Int) - 128) + (c2 : Int) - 128 := by omega
                        by_cases p2 : c0 % 16 * 4096 + c1 % 64 * 64 + c2 % 64 ≤ 57343
                        · have q4 : 64 * (64 * ((c0 : Int) - 224) + (c1 : Int) - 128) + (c2 : Int) - 128 ≤ 57343 := by omega
                          have HF : Hid (validD s.data.toList = false) := HC.out.bad hlt (by
                            rw [HD.out]
                            rcases decodeN_shape (s.size - i) c0 c1 c2 c3 with h | h | h | h | h
                            · exfalso; omega
                            · exfalso; omega
                            · exfalso; omega
                            · exfalso; omega
                            · exact h)
                          go_wp2_with fail
                          refine wp_loop_rounds 4 ?_
                          repeat any_goals (rw [rounds_succ]; go_wp2)
                          go_ret2
                          rw [HF.out]
                          exact left_none HF.out HC.out.below
                        · have q4 : (57343 : Int) < 64 * (64 * ((c0 : Int) - 224) + (c1 : Int) - 128) + (c2 : Int) - 128 := by omega
                          go_wp2_with fail
                          refine wp_loop_rounds 4 ?_
                          repeat any_goals (rw [rounds_succ]; go_wp2_with (at_builtin; refine wpList_append_lies _ rfl (.tmp 96) (.tmp 98) 43 rfl w.heap.size 3 i0 (.int .i64 0) 1 8 Tryd.underlying43 hi0 hz0 hz1 hz2 rfl (by omega) u4 done.length (intCells done) rfl (hown.alloc _) ⟨wr.heap.size, 0, none⟩ 1 1 [.int .i64 _] rfl rfl (World.news_of_block (cs := #[.int .i64 _]) (t := 3) (fr := (0, 0)) (heap_alloc_new wr _)) (by simp [Value.oneCell']) (by omega) hbig (by omega) (by simp; omega) (wr.heap.size + 1) (by simp) ?_; intro g cap w1 hown1 hgrow hat' hlt'))
                          go_wp2
                          go_roundw
                          case rel =>
                            refine ⟨i + 3, done ++ [c0 % 16 * 4096 + c1 % 64 * 64 + c2 % 64], by go_num, HC.out.next hlt ?_ (by omega) (by omega) (by omega) hown1 (by omega) (((HC.out.below.alloc hbel _).grown hgrow (by simp; omega) (fun q hq => (hown.lt q hq).1)))⟩
                            rw [HD.out]
                            unfold decodeN; rw [if_neg (by omega), if_neg (by omega), if_pos (by omega), if_pos (by omega)]
                          case measure => simp [RowKit.intOf]; omega
                  · have x2 : (191 : Int) < (c2 : Int) := by omega
                    have HF : Hid (validD s.data.toList = false) := HC.out.bad hlt (by
                      rw [HD.out]
                      rcases decodeN_shape (s.size - i) c0 c1 c2 c3 with h | h | h | h | h
                      · exfalso; omega
                      · exfalso; omega
                      · exfalso; omega
                      · exfalso; omega
                      · exact h)
                    go_wp2_with fail
                    refine wp_loop_rounds 4 ?_
                    repeat any_goals (rw [rounds_succ]; go_wp2)
                    go_ret2
                    rw [HF.out]
                    exact left_none HF.out HC.out.below
              · have z2 : (s.size : Int) ≤ (i : Int) + 2 := by omega
                have HF : Hid (validD s.data.toList = false) := HC.out.bad hlt (by
                  rw [HD.out]
                  rcases decodeN_shape (s.size - i) c0 c1 c2 c3 with h | h | h | h | h
                  · exfalso; omega
                  · exfalso; omega
                  · exfalso; omega
                  · exfalso; omega
                  · exact h)
                go_wp2_with fail
                refine wp_loop_rounds 4 ?_
                repeat any_goals (rw [rounds_succ]; go_wp2)
                go_ret2
                rw [HF.out]
                exact left_none HF.out HC.out.below
            · have x1 : (191 : Int) < (c1 : Int) := by omega
              have HF : Hid (validD s.data.toList = false) := HC.out.bad hlt (by
                rw [HD.out]
                rcases decodeN_shape (s.size - i) c0 c1 c2 c3 with h | h | h | h | h
                · exfalso; omega
                · exfalso; omega
                · exfalso; omega
                · exfalso; omega
                · exact h)
              go_wp2_with fail
              refine wp_loop_rounds 4 ?_
              repeat any_goals (rw [rounds_succ]; go_wp2)
              go_ret2
              rw [HF.out]
              exact left_none HF.out HC.out.below
        · have z1 : (s.size : Int) ≤ (i : Int) + 1 := by omega
          have HF : Hid (validD s.data.toList = false) := HC.out.bad hlt (by
            rw [HD.out]
            rcases decodeN_shape (s.size - i) c0 c1 c2 c3 with h | h | h | h | h
            · exfalso; omega
            · exfalso; omega
            · exfalso; omega
            · exfalso; omega
            · exact h)
          go_wp2_with fail
          refine wp_loop_rounds 4 ?_
          repeat any_goals (rw [rounds_succ]; go_wp2)
          go_ret2
          rw [HF.out]
          exact left_none HF.out HC.out.below
      · have m1 : (240 : Int) ≤ (c0 : Int) := by omega
        have m2 : (c0 : Int) < 248 := by omega
        by_cases n1 : i + 1 < s.size
        · have z1 : (i : Int) + 1 < (s.size : Int) := by omega
          by_cases l1 : c1 < 128
          · have y1 : (c1 : Int) < 128 := by omega
            have HF : Hid (validD s.data.toList = false) := HC.out.bad hlt (by
              rw [HD.out]
              rcases decodeN_shape (s.size - i) c0 c1 c2 c3 with h | h | h | h | h
              · exfalso; omega
              · exfalso; omega
              · exfalso; omega
              · exfalso; omega
              · exact h)
            go_wp2_with fail
            refine wp_loop_rounds 4 ?_
            repeat any_goals (rw [rounds_succ]; go_wp2)
            go_ret2
            rw [HF.out]
            exact left_none HF.out HC.out.below
          · have y1 : (128 : Int) ≤ (c1 : Int) := by omega
            by_cases u1 : c1 ≤ 191
            · have x1 : (c1 : Int) ≤ 191 := by omega
              by_cases n2 : i + 2 < s.size
              · have z2 : (i : Int) + 2 < (s.size : Int) := by omega
                by_cases l2 : c2 < 128
                · have y2 : (c2 : Int) < 128 := by omega
                  have HF : Hid (validD s.data.toList = false) := HC.out.bad hlt (by
                    rw [HD.out]
                    rcases decodeN_shape (s.size - i) c0 c1 c2 c3 with h | h | h | h | h
                    · exfalso; omega
                    · exfalso; omega
                    · exfalso; omega
                    · exfalso; omega
                    · exact h)
                  go_wp2_with fail
                  refine wp_loop_rounds 4 ?_
                  repeat any_goals (rw [rounds_succ]; go_wp2)
                  go_ret2
                  rw [HF.out]
                  exact left_none HF.out HC.out.below
                · have y2 : (128 : Int) ≤ (c2 : Int) := by omega
                  by_cases u2 : c2 ≤ 191
                  · have x2 : (c2 : Int) ≤ 191 := by omega
                    by_cases n3 : i + 3 < s.size
                    · have z3 : (i : Int) + 3 < (s.size : Int) := by omega
                      by_cases l3 : c3 < 128
                      · have y3 : (c3 : Int) < 128 := by omega
                        have HF : Hid (validD s.data.toList = false) := HC.out.bad hlt (by
                          rw [HD.out]
                          rcases decodeN_shape (s.size - i) c0 c1 c2 c3 with h | h | h | h | h
                          · exfalso; omega
                          · exfalso; omega
                          · exfalso; omega
                          · exfalso; omega
                          · exact h)
                        go_wp2_with fail
                        refine wp_loop_rounds 4 ?_
                        repeat any_goals (rw [rounds_succ]; go_wp2)
                        go_ret2
                        rw [HF.out]
                        exact left_none HF.out HC.out.below
                      · have y3 : (128 : Int) ≤ (c3 : Int) := by omega
                        by_cases u3 : c3 ≤ 191
                        · have x3 : (c3 : Int) ≤ 191 := by omega
                          by_cases q : c0 % 8 * 262144 + c1 % 64 * 4096 + c2 % 64 * 64 + c3 % 64 < 65536
                          · have q1 : 64 * (64 * (64 * ((c0 : Int) - 240) + (c1 : Int) - 128) + (c2 : Int) - 128) + (c3 : Int) - 128 < 65536 := by omega
                            have HF : Hid (validD s.data.toList = false) := HC.out.bad hlt (by
                              rw [HD.out]
                              rcases decodeN_shape (s.size - i) c0 c1 c2 c3 with h | h | h | h | h
                              · exfalso; omega
                              · exfalso; omega
                              · exfalso; omega
                              · exfalso; omega
                              · exact h)
                            go_wp2_with fail
                            refine wp_loop_rounds 4 ?_
                            repeat any_goals (rw [rounds_succ]; go_wp2)
                            go_ret2
                            rw [HF.out]
                            exact left_none HF.out HC.out.below
                          · have q1 : (65536 : Int) ≤ 64 * (64 * (64 * ((c0 : Int) - 240) + (c1 : Int) - 128) + (c2 : Int) - 128) + (c3 : Int) - 128 := by omega
                            by_cases p1 : c0 % 8 * 262144 + c1 % 64 * 4096 + c2 % 64 * 64 + c3 % 64 ≤ 1114111
                            · have q2 : 64 * (64 * (64 * ((c0 : Int) - 240) + (c1 : Int) - 128) + (c2 : Int) - 128) + (c3 : Int) - 128 ≤ 1114111 := by omega
                              have q3 : (57343 : Int) < 64 * (64 * (64 * ((c0 : Int) - 240) + (c1 : Int) - 128) + (c2 : Int) - 128) + (c3 : Int) - 128 := by omega
                              have q4 : (55296 : Int) ≤ 64 * (64 * (64 * ((c0 : Int) - 240) + (c1 : Int) - 128) + (c2 : Int) - 128) + (c3 : Int) - 128 := by omega
                              go_wp2_with fail
                              refine wp_loop_rounds 4 ?_
                              repeat any_goals (rw [rounds_succ]; go_wp2_with (at_builtin; refine wpList_append_lies _ rfl (.tmp 96) (.tmp 98) 43 rfl w.heap.size 3 i0 (.int .i64 0) 1 8 Tryd.underlying43 hi0 hz0 hz1 hz2 rfl (by omega) u4 done.length (intCells done) rfl (hown.alloc _) ⟨wr.heap.size, 0, none⟩ 1 1 [.int .i64 _] rfl rfl (World.news_of_block (cs := #[.int .i64 _]) (t := 3) (fr := (0, 0)) (heap_alloc_new wr _)) (by simp [Value.oneCell']) (by omega) hbig (by omega) (by simp; omega) (wr.heap.size + 1) (by simp) ?_; intro g cap w1 hown1 hgrow hat' hlt'))
                              go_wp2
                              go_roundw
                              case rel =>
                                refine ⟨i + 4, done ++ [c0 % 8 * 262144 + c1 % 64 * 4096 + c2 % 64 * 64 + c3 % 64], by go_num, HC.out.next hlt ?_ (by omega) (by omega) (by omega) hown1 (by omega) (((HC.out.below.alloc hbel _).grown hgrow (by simp; omega) (fun q hq => (hown.lt q hq).1)))⟩
                                rw [HD.out]
                                unfold decodeN; rw [if_neg (by omega), if_neg (by omega), if_neg (by omega), if_pos (by omega), if_pos (by omega)]
                              case measure => simp [RowKit.intOf]; omega
                            · have q2 : (1114111 : Int) < 64 * (64 * (64 * ((c0 : Int) - 240) + (c1 : Int) - 128) + (c2 : Int) - 128) + (c3 : Int) - 128 := by omega
                              have HF : Hid (validD s.data.toList = false) := HC.out.bad hlt (by
                                rw [HD.out]
                                rcases decodeN_shape (s.size - i) c0 c1 c2 c3 with h | h | h | h | h
                                · exfalso; omega
                                · exfalso; omega
                                · exfalso; omega
                                · exfalso; omega
                                · exact h)
                              go_wp2_with fail
                              refine wp_loop_rounds 4 ?_
                              repeat any_goals (rw [rounds_succ]; go_wp2)
                              go_ret2
                              rw [HF.out]
                              exact left_none HF.out HC.out.below
                        · have x3 : (191 : Int) < (c3 : Int) := by omega
                          have HF : Hid (validD s.data.toList = false) := HC.out.bad hlt (by
                            rw [HD.out]
                            rcases decodeN_shape (s.size - i) c0 c1 c2 c3 with h | h | h | h | h
                            · exfalso; omega
                            · exfalso; omega
                            · exfalso; omega
                            · exfalso; omega
                            · exact h)
                          go_wp2_with fail
                          refine wp_loop_rounds 4 ?_
                          repeat any_goals (rw [rounds_succ]; go_wp2)
                          go_ret2
                          rw [HF.out]
                          exact left_none HF.out HC.out.below
                    · have z3 : (s.size : Int) ≤ (i : Int) + 3 := by omega
                      have HF : Hid (validD s.data.toList = false) := HC.out.bad hlt (by
                        rw [HD.out]
                        rcases decodeN_shape (s.size - i) c0 c1 c2 c3 with h | h | h | h | h
                        · exfalso; omega
                        · exfalso; omega
                        · exfalso; omega
                        · exfalso; omega
                        · exact h)
                      go_wp2_with fail
                      refine wp_loop_rounds 4 ?_
                      repeat any_goals (rw [rounds_succ]; go_wp2)
                      go_ret2
                      rw [HF.out]
                      exact left_none HF.out HC.out.below
                  · have x2 : (191 : Int) < (c2 : Int) := by omega
                    have HF : Hid (validD s.data.toList = false) := HC.out.bad hlt (by
                      rw [HD.out]
                      rcases decodeN_shape (s.size - i) c0 c1 c2 c3 with h | h | h | h | h
                      · exfalso; omega
                      · exfalso; omega
                      · exfalso; omega
                      · exfalso; omega
                      · exact h)
                    go_wp2_with fail
                    refine wp_loop_rounds 4 ?_
                    repeat any_goals (rw [rounds_succ]; go_wp2)
                    go_ret2
                    rw [HF.out]
                    exact left_none HF.out HC.out.below
              · have z2 : (s.size : Int) ≤ (i : Int) + 2 := by omega
                have HF : Hid (validD s.data.toList = false) := HC.out.bad hlt (by
                  rw [HD.out]
                  rcases decodeN_shape (s.size - i) c0 c1 c2 c3 with h | h | h | h | h
                  · exfalso; omega
                  · exfalso; omega
                  · exfalso; omega
                  · exfalso; omega
                  · exact h)
                go_wp2_with fail
                refine wp_loop_rounds 4 ?_
                repeat any_goals (rw [rounds_succ]; go_wp2)
                go_ret2
                rw [HF.out]
                exact left_none HF.out HC.out.below
            · have x1 : (191 : Int) < (c1 : Int) := by omega
              have HF : Hid (validD s.data.toList = false) := HC.out.bad hlt (by
                rw [HD.out]
                rcases decodeN_shape (s.size - i) c0 c1 c2 c3 with h | h | h | h | h
                · exfalso; omega
                · exfalso; omega
                · exfalso; omega
                · exfalso; omega
                · exact h)
              go_wp2_with fail
              refine wp_loop_rounds 4 ?_
              repeat any_goals (rw [rounds_succ]; go_wp2)
              go_ret2
              rw [HF.out]
              exact left_none HF.out HC.out.below
        · have z1 : (s.size : Int) ≤ (i : Int) + 1 := by omega
          have HF : Hid (validD s.data.toList = false) := HC.out.bad hlt (by
            rw [HD.out]
            rcases decodeN_shape (s.size - i) c0 c1 c2 c3 with h | h | h | h | h
            · exfalso; omega
            · exfalso; omega
            · exfalso; omega
            · exfalso; omega
            · exact h)
          go_wp2_with fail
          refine wp_loop_rounds 4 ?_
          repeat any_goals (rw [rounds_succ]; go_wp2)
          go_ret2
          rw [HF.out]
          exact left_none HF.out HC.out.below
      · have m1 : (248 : Int) ≤ (c0 : Int) := by omega
        have HF : Hid (validD s.data.toList = false) := HC.out.bad hlt (by
          rw [HD.out]
          rcases decodeN_shape (s.size - i) c0 c1 c2 c3 with h | h | h | h | h
          · exfalso; omega
          · exfalso; omega
          · exfalso; omega
          · exfalso; omega
          · exact h)
        go_wp2
        go_ret2
        rw [HF.out]
        exact left_none HF.out HC.out.below
    · have ei : i = s.size := by omega
      have hz : ¬ (i : Int) < (s.size : Int) := by omega
      have HV : Hid (validD s.data.toList = true ∧ charsOf s.data.toList = done) := by
        have h1 := hC.val
        rw [drop_end s i hlt, validD_nil] at h1
        refine ⟨h1, ?_⟩
        unfold charsOf
        rw [h1, if_pos rfl, hC.all, drop_end s i hlt, chs_nil]
        simp
      have HC : Hid (Cs w s i u4 done wr) := hC
      clear hC
      go_wp2
      go_ret2
      rw [HV.out.1, HV.out.2]
      exact ⟨_, rfl, HC.out.owns, HC.out.below⟩
end Go.Proofs.YtbpahdgkedfmdaaDoor
