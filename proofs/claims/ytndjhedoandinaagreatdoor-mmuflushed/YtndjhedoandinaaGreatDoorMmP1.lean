/- Machines: walks, and what they leave. -/
import Derived.Test.YtndjhedoandinaaGreatDoorWalkF
import Derived.Test.YtndjhedoandinaaGreatDoorTbP
import Derived.Test.YtndjhedoandinaaGreatDoorTrP
import Derived.Test.YtndjhedoandinaaGreatDoorDescBase
import Derived.Test.YtndjhedoandinaaGreatDoorVirtLetD

/- Layer 9, machines: what a machine is, in plain Lean and in the heap; what holds of it as the worlds go on. -/
namespace Go.Proofs.YtndjhedoandinaaGreatDoor.MM
open Go.RowKit Go.Maps

/-- A hint, a planned guess, a machine's whole state. -/
structure Hn where
  fill : Bool
  led : Bool
  keep : Bool
abbrev Hn.v (h : Hn) : Value := .agg #[.bool h.fill, .bool h.led, .bool h.keep]
structure Pl where
  va : Nat
  h : Hn
def Pl.cs (p : Pl) : List Value := [.int .u64 (p.va : Int), .bool p.h.fill, .bool p.h.led, .bool p.h.keep]
def p0 : Pl := ⟨0, false, false, false⟩
def gP (l : List Pl) (i : Nat) : Pl := l.getD i p0
structure St where
  f : Nat → Nat
  E : List TB.En
  K : List TR.En
  rg : Option (Nat × Nat)
  P : List Pl
def rgV : Option (Nat × Nat) → Value
  | none => .nilIface
  | some (r, i) => .iface 120 (.agg #[.int .u64 (r : Nat), .int .i64 (i : Nat)])

structure Wf (most : Int) (s : St) : Prop where
  m1 : 1 ≤ most
  m64 : most ≤ 64
  el : (s.E.length : Int) ≤ most
  kl : (s.K.length : Int) ≤ most
  er : ∀ e ∈ s.E, TB.rightE e = true
  eo : ∀ e ∈ s.E, e.ok
  kr : ∀ e ∈ s.K, e.okR
  rr : ∀ r i, s.rg = some (r, i) → r < 281474976710656 ∧ r % 4096 = 0 ∧ i ≤ 255
  pl : s.P.length ≤ 8
  pv : ∀ p ∈ s.P, p.va < 18446744073709551616
  nd : s.E.Nodup

/-- The package variables that lie where they are laid. -/
structure FA (w : World) : Prop where
  t : TR.Flds w
  a : Asid w
theorem FA.later {w w' : World} (h : FA w) (hb : Below w.heap.size w w') : FA w' := ⟨h.t.later hb, h.a.later hb⟩

/-- Planned guesses that lie in memory. -/
def PlA (w : World) (X : Nat → Prop) (v : Value) (P : List Pl) : Prop :=
  ∃ ad cap, v = .slice ad P.length cap ∧ ∀ i, i < P.length → ∃ g, ad = some ⟨g, 0, none⟩ ∧ g < w.heap.size ∧ X g ∧ ∀ j u, (gP P i).cs[j]? = some u → w.cell? ⟨g, i * 4 + j, none⟩ = some u
theorem PlA.kept {w w' : World} {X Y : Nat → Prop} {v : Value} {P : List Pl} (h : PlA w X v P) (hs : w.heap.size ≤ w'.heap.size) (hb : ∀ g, X g → g < w.heap.size → Y g ∧ w'.heap[g]? = w.heap[g]?) : PlA w' Y v P := by
  obtain ⟨ad, cap, rfl, hc⟩ := h
  refine ⟨ad, cap, rfl, fun i hi => ?_⟩
  obtain ⟨g, rfl, hg, hX, hq⟩ := hc i hi
  obtain ⟨h1, h2⟩ := hb g hX hg
  exact ⟨g, rfl, Nat.lt_of_lt_of_le hg hs, h1, fun j u hu => (World.cell?_of_block (a := ⟨g, i * 4 + j, none⟩) h2).trans (hq j u hu)⟩

structure MchV (w0 w : World) (X XM XB XT : Nat → Prop) (x a tb tr n S : Nat) (most : Int) (s : St) (pv : Value) : Prop where
  row : w.heap[x]? = some (.cells #[.pointer (some ⟨a, 0, none⟩), .pointer (some ⟨tb, 0, none⟩), .pointer (some ⟨tr, 0, none⟩), rgV s.rg, pv] 124 (0, 0))
  mem : MemAt w XM a S n s.f
  buf : TB.Buf w XB tb most s.E
  trl : TR.Buf w XT tr most s.K
  pln : PlA w (fun g => X g ∧ ¬ XM g ∧ ¬ XB g ∧ ¬ XT g ∧ g ≠ x) pv s.P
  dmb : ∀ i, XM i → ¬ XB i
  dmt : ∀ i, XM i → ¬ XT i
  dbt : ∀ i, XB i → ¬ XT i
  dm : ¬ XM x
  db : ¬ XB x
  dt : ¬ XT x
  cm : ∀ i, XM i → X i
  cb : ∀ i, XB i → X i
  ct : ∀ i, XT i → X i
  cx : X x
  lt : ∀ i, X i → i < w.heap.size
  lo : ∀ i, X i → w0.heap.size ≤ i
  bel : Below w0.heap.size w0 w
  fa : FA w0
  wf : Wf most s
def Mch (w0 w : World) (X : Nat → Prop) (x a n S : Nat) (most : Int) (s : St) : Prop := ∃ XM XB XT tb tr pv, MchV w0 w X XM XB XT x a tb tr n S most s pv

theorem buf_keep {w w' : World} {X : Nat → Prop} {t : Nat} {most : Int} {l : List TB.En} (h : TB.Buf w X t most l) (hb : ∀ i, X i → w'.heap[i]? = w.heap[i]?) (hs : w.heap.size ≤ w'.heap.size) : TB.Buf w' X t most l := by
  obtain ⟨v, h⟩ := h
  exact ⟨v, h.kept hb hs⟩
theorem trl_keep {w w' : World} {X : Nat → Prop} {t : Nat} {most : Int} {l : List TR.En} (h : TR.Buf w X t most l) (hb : ∀ i, X i → w'.heap[i]? = w.heap[i]?) (hs : w.heap.size ≤ w'.heap.size) : TR.Buf w' X t most l := by
  obtain ⟨v, h⟩ := h
  exact ⟨v, h.kept hb hs⟩
theorem mem_keep {w w' : World} {X : Nat → Prop} {a S n : Nat} {f : Nat → Nat} (h : MemAt w X a S n f) (hb : ∀ i, X i → w'.heap[i]? = w.heap[i]?) (hs : w.heap.size ≤ w'.heap.size) : MemAt w' X a S n f := by
  obtain ⟨mb, pg, h⟩ := h
  exact ⟨mb, pg, h.kept hb hs⟩
theorem tbuf_lt {w : World} {X : Nat → Prop} {t : Nat} {most : Int} {l : List TB.En} (h : TB.Buf w X t most l) : ∀ i, X i → i < w.heap.size := by
  obtain ⟨v, h⟩ := h
  exact h.lt
theorem tbuf_in {w : World} {X : Nat → Prop} {t : Nat} {most : Int} {l : List TB.En} (h : TB.Buf w X t most l) : X t := by
  obtain ⟨v, h⟩ := h
  exact h.xt
theorem trl_in {w : World} {X : Nat → Prop} {t : Nat} {most : Int} {l : List TR.En} (h : TR.Buf w X t most l) : X t := by
  obtain ⟨v, h⟩ := h
  exact h.xt

section
variable {w0 w w' : World} {X XM XB XT : Nat → Prop} {x a tb tr n S : Nat} {most : Int} {s : St} {pv : Value}

theorem MchV.kept (h : MchV w0 w X XM XB XT x a tb tr n S most s pv) (hb : ∀ i, X i → w'.heap[i]? = w.heap[i]?) (hs : w.heap.size ≤ w'.heap.size) (hB : Below w0.heap.size w0 w') : MchV w0 w' X XM XB XT x a tb tr n S most s pv :=
  ⟨(hb x h.cx).trans h.row, mem_keep h.mem (fun i hi => hb i (h.cm i hi)) hs, buf_keep h.buf (fun i hi => hb i (h.cb i hi)) hs, trl_keep h.trl (fun i hi => hb i (h.ct i hi)) hs, h.pln.kept hs (fun g hg _ => ⟨hg, hb g hg.1⟩),
    h.dmb, h.dmt, h.dbt, h.dm, h.db, h.dt, h.cm, h.cb, h.ct, h.cx, fun i hi => Nat.lt_of_lt_of_le (h.lt i hi) hs, h.lo, hB, h.fa, h.wf⟩
theorem MchV.later (h : MchV w0 w X XM XB XT x a tb tr n S most s pv) (hb : Below w.heap.size w w') : MchV w0 w' X XM XB XT x a tb tr n S most s pv :=
  h.kept (fun i hi => hb.block i (h.lt i hi)) hb.size (below_tr h.bel hb)
theorem Mch.later (h : Mch w0 w X x a n S most s) (hb : Below w.heap.size w w') : Mch w0 w' X x a n S most s := by
  obtain ⟨XM, XB, XT, tb, tr, pv, h⟩ := h
  exact ⟨XM, XB, XT, tb, tr, pv, h.later hb⟩
theorem Mch.turn {Y : Nat → Prop} (h : Mch w0 w X x a n S most s) (ht : Turn Y w w') (hd : ∀ i, X i → ¬ Y i) (hY : ∀ i, Y i → w0.heap.size ≤ i) : Mch w0 w' X x a n S most s := by
  obtain ⟨XM, XB, XT, tb, tr, pv, h⟩ := h
  exact ⟨XM, XB, XT, tb, tr, pv, h.kept (fun i hi => ht.block i (h.lt i hi) (hd i hi)) ht.size (h.bel.trans (ht.below hY h.bel.size))⟩
/-- The variables, as long as only the machine's blocks are turned. -/
theorem MchV.flds (h : MchV w0 w X XM XB XT x a tb tr n S most s pv) {W : World} (ht : Turn X w W) : FA W := h.fa.later (h.bel.trans (ht.below h.lo h.bel.size))
theorem MchV.fld (h : MchV w0 w X XM XB XT x a tb tr n S most s pv) : FA w := h.fa.later h.bel
theorem MchV.wide {Y : Nat → Prop} (h : MchV w0 w X XM XB XT x a tb tr n S most s pv) (h1 : ∀ i, X i → Y i) (h2 : ∀ i, Y i → i < w.heap.size ∧ w0.heap.size ≤ i) : MchV w0 w Y XM XB XT x a tb tr n S most s pv :=
  ⟨h.row, h.mem, h.buf, h.trl, h.pln.kept (Nat.le_refl _) (fun g hg _ => ⟨⟨h1 g hg.1, hg.2⟩, rfl⟩), h.dmb, h.dmt, h.dbt, h.dm, h.db, h.dt, fun i hi => h1 i (h.cm i hi), fun i hi => h1 i (h.cb i hi), fun i hi => h1 i (h.ct i hi), h1 x h.cx, fun i hi => (h2 i hi).1, fun i hi => (h2 i hi).2, h.bel, h.fa, h.wf⟩
theorem Mch.wide {Y : Nat → Prop} (h : Mch w0 w X x a n S most s) (h1 : ∀ i, X i → Y i) (h2 : ∀ i, Y i → i < w.heap.size ∧ w0.heap.size ≤ i) : Mch w0 w Y x a n S most s := by
  obtain ⟨XM, XB, XT, tb, tr, pv, h⟩ := h
  exact ⟨XM, XB, XT, tb, tr, pv, h.wide h1 h2⟩
theorem mem_mono {m : Nat} {f : Nat → Nat} (h : MemAt w X a S n f) (hn : n ≤ m) : MemAt w X a S m f := by
  obtain ⟨mb, pg, h⟩ := h
  exact ⟨mb, pg, h.str, h.pgs.mono hn, h.xa, h.xm, h.xlt, h.s0, h.page, h.inj, h.zero, h.fl, h.out⟩
theorem Mch.mono {m : Nat} (h : Mch w0 w X x a n S most s) (hn : n ≤ m) : Mch w0 w X x a m S most s := by
  obtain ⟨XM, XB, XT, tb, tr, pv, h⟩ := h
  exact ⟨XM, XB, XT, tb, tr, pv, h.row, mem_mono h.mem hn, h.buf, h.trl, h.pln, h.dmb, h.dmt, h.dbt, h.dm, h.db, h.dt, h.cm, h.cb, h.ct, h.cx, h.lt, h.lo, h.bel, h.fa, h.wf⟩
theorem Mch.ltX (h : Mch w0 w X x a n S most s) : ∀ i, X i → i < w.heap.size := by
  obtain ⟨XM, XB, XT, tb, tr, pv, h⟩ := h
  exact h.lt
theorem Mch.loX (h : Mch w0 w X x a n S most s) : ∀ i, X i → w0.heap.size ≤ i := by
  obtain ⟨XM, XB, XT, tb, tr, pv, h⟩ := h
  exact h.lo
theorem Mch.bl (h : Mch w0 w X x a n S most s) : Below w0.heap.size w0 w := by
  obtain ⟨XM, XB, XT, tb, tr, pv, h⟩ := h
  exact h.bel
theorem Mch.wfm (h : Mch w0 w X x a n S most s) : Wf most s := by
  obtain ⟨XM, XB, XT, tb, tr, pv, h⟩ := h
  exact h.wf
theorem gr_in {i : Nat} (hs : w.heap.size ≤ w'.heap.size) (h : ∀ i, X i → i < w.heap.size) (h0 : ∀ i, X i → w0.heap.size ≤ i) (hb : w0.heap.size ≤ w.heap.size) : Gr X w w' i → i < w'.heap.size ∧ w0.heap.size ≤ i := fun hi => by
  rcases hi with hi | hi
  · exact ⟨Nat.lt_of_lt_of_le (h i hi) hs, h0 i hi⟩
  · exact ⟨hi.2, Nat.le_trans hb hi.1⟩
/-- Behind two doings, one behind the other. -/
theorem Mch.gr2 {w1 w2 w3 : World} {m : Nat} {s' : St} (h0 : Mch w0 w X x a n S most s) (h1 : Below w.heap.size w w1) (ht1 : Turn X w1 w2) (h2 : Below w2.heap.size w2 w3) (h : Mch w0 w' (Gr (Gr X w1 w2) w3 w') x a m S most s') (ht2 : Turn (Gr X w1 w2) w3 w') : Mch w0 w' (Gr X w w') x a m S most s' ∧ Turn X w w' := by
  have e1 := h1.size
  have e2 := ht1.size
  have e3 := h2.size
  have e4 := ht2.size
  have e5 := h0.bl.size
  refine ⟨h.wide (fun i hi => ?_) (fun _ hi => gr_in (by omega) h0.ltX h0.loX e5 hi), ?_⟩
  · rcases hi with (hi | hi) | hi
    · exact Or.inl hi
    · exact Or.inr ⟨by omega, by omega⟩
    · exact Or.inr ⟨by omega, by omega⟩
  · refine (turn_of_below X h1).trans ((ht1.trans (turn_of_below X h2) (fun _ _ h => h)).trans ht2 ?_) (fun _ _ h => h)
    intro i hi hX
    rcases hX with hX | hX
    · exact hX
    · omega
theorem Mch.gr1 {w1 w2 : World} {m : Nat} {s' : St} (h0 : Mch w0 w X x a n S most s) (h1 : Below w.heap.size w w1) (ht1 : Turn X w1 w2) (h2 : Below w2.heap.size w2 w') (h : Mch w0 w2 (Gr X w1 w2) x a m S most s') : Mch w0 w' (Gr X w w') x a m S most s' ∧ Turn X w w' := by
  have e1 := h1.size
  have e2 := ht1.size
  have e3 := h2.size
  have e5 := h0.bl.size
  refine ⟨(h.later h2).wide (fun i hi => ?_) (fun _ hi => gr_in (by omega) h0.ltX h0.loX e5 hi), ?_⟩
  · rcases hi with hi | hi
    · exact Or.inl hi
    · exact Or.inr ⟨by omega, by omega⟩
  · exact (turn_of_below X h1).trans (ht1.trans (turn_of_below X h2) (fun _ _ h => h)) (fun _ _ h => h)
theorem Mch.gr0 (h : Mch w0 w X x a n S most s) (hb : Below w.heap.size w w') : Mch w0 w' (Gr X w w') x a n S most s ∧ Turn X w w' :=
  ⟨(h.later hb).wide (fun _ hi => Or.inl hi) (fun _ hi => gr_in hb.size h.ltX h.loX h.bl.size hi), turn_of_below X hb⟩

/-- The memory is written. -/
theorem MchV.wrote {m : Nat} {f' : Nat → Nat} (h : MchV w0 w X XM XB XT x a tb tr n S most s pv) (ht : Turn XM w w') (hM : MemAt w' (Gr XM w w') a S m f') : Mch w0 w' (Gr X w w') x a m S most { s with f := f' } ∧ Turn X w w' := by
  have hT : Turn X w w' := ⟨ht.os, ht.tape, ht.output, ht.size, fun i hi hX => ht.block i hi (fun c => hX (h.cm i c))⟩
  have hk : ∀ i, X i → ¬ XM i → w'.heap[i]? = w.heap[i]? := fun i hi hn => ht.block i (h.lt i hi) hn
  have key : ∀ i, Gr XM w w' i → X i → XM i := fun i hi hX => by
    rcases hi with hi | hi
    · exact hi
    · exact absurd (h.lt i hX) (Nat.not_lt.2 hi.1)
  refine ⟨⟨Gr XM w w', XB, XT, tb, tr, pv, (hk x h.cx h.dm).trans h.row, hM, buf_keep h.buf (fun i hi => hk i (h.cb i hi) (fun c => h.dmb i c hi)) ht.size, trl_keep h.trl (fun i hi => hk i (h.ct i hi) (fun c => h.dmt i c hi)) ht.size,
    h.pln.kept ht.size (fun g hg _ => ⟨⟨Or.inl hg.1, fun c => hg.2.1 (key g c hg.1), hg.2.2⟩, hk g hg.1 hg.2.1⟩), fun i hi hb => h.dmb i (key i hi (h.cb i hb)) hb, fun i hi hb => h.dmt i (key i hi (h.ct i hb)) hb, h.dbt, fun c => h.dm (key x c h.cx), h.db, h.dt,
    fun i hi => ?_, fun i hi => Or.inl (h.cb i hi), fun i hi => Or.inl (h.ct i hi), Or.inl h.cx, fun i hi => (gr_in ht.size h.lt h.lo h.bel.size hi).1, fun i hi => (gr_in ht.size h.lt h.lo h.bel.size hi).2, h.bel.trans (hT.below h.lo h.bel.size), h.fa, ⟨h.wf.m1, h.wf.m64, h.wf.el, h.wf.kl, h.wf.er, h.wf.eo, h.wf.kr, h.wf.rr, h.wf.pl, h.wf.pv, h.wf.nd⟩⟩, hT⟩
  rcases hi with hi | hi
  · exact Or.inl (h.cm i hi)
  · exact Or.inr hi
/-- The buffer is turned. -/
theorem MchV.filled {E' : List TB.En} (h : MchV w0 w X XM XB XT x a tb tr n S most s pv) (ht : Turn XB w w') (hM : TB.Buf w' (TB.Xp XB w w') tb most E') (hwf : Wf most { s with E := E' }) : Mch w0 w' (Gr X w w') x a n S most { s with E := E' } ∧ Turn X w w' := by
  have hT : Turn X w w' := ⟨ht.os, ht.tape, ht.output, ht.size, fun i hi hX => ht.block i hi (fun c => hX (h.cb i c))⟩
  have hk : ∀ i, X i → ¬ XB i → w'.heap[i]? = w.heap[i]? := fun i hi hn => ht.block i (h.lt i hi) hn
  have key : ∀ i, TB.Xp XB w w' i → X i → XB i := fun i hi hX => by
    rcases hi with hi | hi
    · exact hi
    · exact absurd (h.lt i hX) (Nat.not_lt.2 hi.1)
  refine ⟨⟨XM, TB.Xp XB w w', XT, tb, tr, pv, (hk x h.cx h.db).trans h.row, mem_keep h.mem (fun i hi => hk i (h.cm i hi) (fun c => h.dmb i hi c)) ht.size, hM, trl_keep h.trl (fun i hi => hk i (h.ct i hi) (fun c => h.dbt i c hi)) ht.size,
    h.pln.kept ht.size (fun g hg _ => ⟨⟨Or.inl hg.1, hg.2.1, fun c => hg.2.2.1 (key g c hg.1), hg.2.2.2⟩, hk g hg.1 hg.2.2.1⟩), fun i hi hb => h.dmb i hi (key i hb (h.cm i hi)), h.dmt, fun i hi hb => h.dbt i (key i hi (h.ct i hb)) hb, h.dm, fun c => h.db (key x c h.cx), h.dt,
    fun i hi => Or.inl (h.cm i hi), fun i hi => ?_, fun i hi => Or.inl (h.ct i hi), Or.inl h.cx, fun i hi => (gr_in ht.size h.lt h.lo h.bel.size hi).1, fun i hi => (gr_in ht.size h.lt h.lo h.bel.size hi).2, h.bel.trans (hT.below h.lo h.bel.size), h.fa, hwf⟩, hT⟩
  rcases hi with hi | hi
  · exact Or.inl (h.cb i hi)
  · exact Or.inr hi
/-- The trail is turned. -/
theorem MchV.marked {K' : List TR.En} (h : MchV w0 w X XM XB XT x a tb tr n S most s pv) (ht : Turn XT w w') (hM : TR.Buf w' (TR.Xp XT w w') tr most K') (hwf : Wf most { s with K := K' }) : Mch w0 w' (Gr X w w') x a n S most { s with K := K' } ∧ Turn X w w' := by
  have hT : Turn X w w' := ⟨ht.os, ht.tape, ht.output, ht.size, fun i hi hX => ht.block i hi (fun c => hX (h.ct i c))⟩
  have hk : ∀ i, X i → ¬ XT i → w'.heap[i]? = w.heap[i]? := fun i hi hn => ht.block i (h.lt i hi) hn
  have key : ∀ i, TR.Xp XT w w' i → X i → XT i := fun i hi hX => by
    rcases hi with hi | hi
    · exact hi
    · exact absurd (h.lt i hX) (Nat.not_lt.2 hi.1)
  refine ⟨⟨XM, XB, TR.Xp XT w w', tb, tr, pv, (hk x h.cx h.dt).trans h.row, mem_keep h.mem (fun i hi => hk i (h.cm i hi) (fun c => h.dmt i hi c)) ht.size, buf_keep h.buf (fun i hi => hk i (h.cb i hi) (fun c => h.dbt i hi c)) ht.size, hM,
    h.pln.kept ht.size (fun g hg _ => ⟨⟨Or.inl hg.1, hg.2.1, hg.2.2.1, fun c => hg.2.2.2.1 (key g c hg.1), hg.2.2.2.2⟩, hk g hg.1 hg.2.2.2.1⟩), h.dmb, fun i hi hb => h.dmt i hi (key i hb (h.cm i hi)), fun i hi hb => h.dbt i hi (key i hb (h.cb i hi)), h.dm, h.db, fun c => h.dt (key x c h.cx),
    fun i hi => Or.inl (h.cm i hi), fun i hi => Or.inl (h.cb i hi), fun i hi => ?_, Or.inl h.cx, fun i hi => (gr_in ht.size h.lt h.lo h.bel.size hi).1, fun i hi => (gr_in ht.size h.lt h.lo h.bel.size hi).2, h.bel.trans (hT.below h.lo h.bel.size), h.fa, hwf⟩, hT⟩
  rcases hi with hi | hi
  · exact Or.inl (h.ct i hi)
  · exact Or.inr hi
/-- The machine's own row is turned: the register, or the plan. -/
theorem MchV.rowed {w1 : World} {rg' : Option (Nat × Nat)} {P' : List Pl} {pv' : Value} (h : MchV w0 w X XM XB XT x a tb tr n S most s pv) (hb : Below w.heap.size w w1) (ht : Turn (fun i => i = x) w1 w') (hr : w'.heap[x]? = some (.cells #[.pointer (some ⟨a, 0, none⟩), .pointer (some ⟨tb, 0, none⟩), .pointer (some ⟨tr, 0, none⟩), rgV rg', pv'] 124 (0, 0)))
    (hp : PlA w' (fun g => Gr X w w' g ∧ ¬ XM g ∧ ¬ XB g ∧ ¬ XT g ∧ g ≠ x) pv' P') (hwf : Wf most { s with rg := rg', P := P' }) : Mch w0 w' (Gr X w w') x a n S most { s with rg := rg', P := P' } ∧ Turn X w w' := by
  have hs : w.heap.size ≤ w'.heap.size := Nat.le_trans hb.size ht.size
  have hT : Turn X w w' := (turn_of_below X hb).trans ht (fun i _ hi => by rw [hi]; exact h.cx)
  have hk : ∀ i, X i → i ≠ x → w'.heap[i]? = w.heap[i]? := fun i hi hn => (ht.block i (Nat.lt_of_lt_of_le (h.lt i hi) hb.size) hn).trans (hb.block i (h.lt i hi))
  exact ⟨⟨XM, XB, XT, tb, tr, pv', hr, mem_keep h.mem (fun i hi => hk i (h.cm i hi) (fun c => h.dm (c ▸ hi))) hs, buf_keep h.buf (fun i hi => hk i (h.cb i hi) (fun c => h.db (c ▸ hi))) hs, trl_keep h.trl (fun i hi => hk i (h.ct i hi) (fun c => h.dt (c ▸ hi))) hs,
    hp, h.dmb, h.dmt, h.dbt, h.dm, h.db, h.dt, fun i hi => Or.inl (h.cm i hi), fun i hi => Or.inl (h.cb i hi), fun i hi => Or.inl (h.ct i hi), Or.inl h.cx, fun i hi => (gr_in hs h.lt h.lo h.bel.size hi).1, fun i hi => (gr_in hs h.lt h.lo h.bel.size hi).2, h.bel.trans (hT.below h.lo h.bel.size), h.fa, hwf⟩, hT⟩
end

theorem row5 {w : World} {x : Nat} {c0 c1 c2 c3 c4 : Value} {T : TypeId} (h : w.heap[x]? = some (.cells #[c0, c1, c2, c3, c4] T (0, 0))) :
    w.cell? ⟨x, 0, none⟩ = some c0 ∧ w.cell? ⟨x, 1, none⟩ = some c1 ∧ w.cell? ⟨x, 2, none⟩ = some c2 ∧ w.cell? ⟨x, 3, none⟩ = some c3 ∧ w.cell? ⟨x, 4, none⟩ = some c4 := by
  refine ⟨?_, ?_, ?_, ?_, ?_⟩
  all_goals (rw [cell_of_row _ _ _ _ _ _ h]; rfl)

end Go.Proofs.YtndjhedoandinaaGreatDoor.MM

/- Machines: memory, evictions, flushes, lists. -/
namespace Go.Proofs.YtndjhedoandinaaGreatDoor.MM
open Go.RowKit Go.Maps

/-- Is there such a place? -/
def inB (m : Int) (k : Nat) : Bool := decide (0 ≤ m ∧ m < (k : Int))
def dropI {α : Type} (l : List α) (n : Int) : List α := if n < 0 then l else l.eraseIdx n.toNat
theorem Wf.subE {most : Int} {s : St} {E' : List TB.En} (h : Wf most s) (hs : E'.Sublist s.E) : Wf most { s with E := E' } :=
  ⟨h.m1, h.m64, by have := hs.length_le; have := h.el; show (E'.length : Int) ≤ most; omega, h.kl, fun e he => h.er e (hs.subset he), fun e he => h.eo e (hs.subset he), h.kr, h.rr, h.pl, h.pv, h.nd.sublist hs⟩
theorem Wf.subK {most : Int} {s : St} {K' : List TR.En} (h : Wf most s) (hs : K'.Sublist s.K) : Wf most { s with K := K' } :=
  ⟨h.m1, h.m64, h.el, by have := hs.length_le; have := h.kl; show (K'.length : Int) ≤ most; omega, h.er, h.eo, fun e he => h.kr e (hs.subset he), h.rr, h.pl, h.pv, h.nd⟩
theorem Wf.el9 {most : Int} {s : St} (h : Wf most s) : s.E.length ≤ 64 ∧ s.K.length ≤ 64 := by have := h.el; have := h.kl; have := h.m64; omega
theorem drop_sub {α : Type} (l : List α) (n : Int) : (dropI l n).Sublist l := by
  unfold dropI
  split
  · exact List.Sublist.refl _
  · exact List.eraseIdx_sublist _ _
theorem keepB_sub (p : TB.En → Bool) (l : List TB.En) : (TB.keepP p l).Sublist l := List.filter_sublist
theorem keepR_sub (p : TR.En → Bool) (l : List TR.En) : (TR.keepP p l).Sublist l := List.filter_sublist

section
variable {w0 w : World} {X XM XB XT : Nat → Prop} {x a tb tr n S : Nat} {most : Int} {s : St} {pv : Value}

theorem MchV.drop (h : MchV w0 w X XM XB XT x a tb tr n S most s pv) (m : Int) :
    Calls Tryz.prog 53 #[.pointer (some ⟨tb, 0, none⟩), .int .i64 m] w fun r w' => r = .returned (.bool (inB m s.E.length)) ∧ Mch w0 w' (Gr X w w') x a n S most { s with E := dropI s.E m } ∧ Turn X w w' := by
  have hl := h.wf.el9
  by_cases hm : 0 ≤ m ∧ m < (s.E.length : Int)
  · obtain ⟨k, rfl⟩ := Int.eq_ofNat_of_zero_le hm.1
    refine (TB.drop_yes h.buf k (by omega) (by omega)).mono ?_
    rintro r w' ⟨rfl, hB, hT⟩
    have e : dropI s.E ((k : Nat) : Int) = s.E.eraseIdx k := by unfold dropI; rw [if_neg (by omega)]; rfl
    rw [show inB ((k : Nat) : Int) _ = true from decide_eq_true hm, e]
    exact ⟨rfl, h.filled hT (h.buf.xp hT.size hB) (e ▸ h.wf.subE (drop_sub s.E (k : Nat)))⟩
  · refine (TB.drop_no h.buf m (by omega) (by omega)).mono ?_
    rintro r w' ⟨rfl, rfl⟩
    have e : dropI s.E m = s.E := by
      unfold dropI
      split
      · rfl
      · exact List.eraseIdx_of_length_le (by omega)
    rw [show inB m _ = false from decide_eq_false hm, e]
    exact ⟨rfl, Mch.gr0 ⟨XM, XB, XT, tb, tr, pv, h⟩ (Below.refl _ _)⟩
theorem MchV.lose (h : MchV w0 w X XM XB XT x a tb tr n S most s pv) (m : Int) :
    Calls Tryz.prog 54 #[.pointer (some ⟨tr, 0, none⟩), .int .i64 m] w fun r w' => r = .returned (.bool (inB m s.K.length)) ∧ Mch w0 w' (Gr X w w') x a n S most { s with K := dropI s.K m } ∧ Turn X w w' := by
  have hl := h.wf.el9
  by_cases hm : 0 ≤ m ∧ m < (s.K.length : Int)
  · obtain ⟨k, rfl⟩ := Int.eq_ofNat_of_zero_le hm.1
    refine (TR.drop_yes h.trl k (by omega) (by omega)).mono ?_
    rintro r w' ⟨rfl, hB, hT⟩
    have e : dropI s.K ((k : Nat) : Int) = s.K.eraseIdx k := by unfold dropI; rw [if_neg (by omega)]; rfl
    rw [show inB ((k : Nat) : Int) _ = true from decide_eq_true hm, e]
    exact ⟨rfl, h.marked hT (h.trl.xp hT.size hB) (e ▸ h.wf.subK (drop_sub s.K (k : Nat)))⟩
  · refine (TR.drop_no h.trl m (by omega) (by omega)).mono ?_
    rintro r w' ⟨rfl, rfl⟩
    have e : dropI s.K m = s.K := by
      unfold dropI
      split
      · rfl
      · exact List.eraseIdx_of_length_le (by omega)
    rw [show inB m _ = false from decide_eq_false hm, e]
    exact ⟨rfl, Mch.gr0 ⟨XM, XB, XT, tb, tr, pv, h⟩ (Below.refl _ _)⟩

set_option maxHeartbeats 1000000 in
theorem memory_c (h : Mch w0 w X x a n S most s) :
    Calls Tryz.prog 18 #[.pointer (some ⟨x, 0, none⟩)] w fun r w' => r = .returned (.pointer (some ⟨a, 0, none⟩)) ∧ w = w' := by
  obtain ⟨XM, XB, XT, tb, tr, pv, h⟩ := h
  obtain ⟨c0, -⟩ := row5 h.row
  clear h
  go_enter Tryz.func18, Tryz.ntmps18
  go_wp2
  go_ret
  exact ⟨rfl, rfl⟩

set_option maxHeartbeats 1000000 in
theorem evict_c (h : Mch w0 w X x a n S most s) (m : Int) :
    Calls Tryz.prog 15 #[.pointer (some ⟨x, 0, none⟩), .int .i64 m] w fun r w' => r = .returned (.bool (inB m s.E.length)) ∧ Mch w0 w' (Gr X w w') x a n S most { s with E := dropI s.E m } ∧ Turn X w w' := by
  obtain ⟨XM, XB, XT, tb, tr, pv, h⟩ := h
  obtain ⟨-, c1, -⟩ := row5 h.row
  have hC := h.drop m
  clear h
  go_enter Tryz.func15, Tryz.ntmps15
  go_wp2_with fail
  refine hC.mono ?_
  rintro e w1 ⟨rfl, hM⟩
  clear hC c1
  go_wp2
  go_ret
  exact ⟨rfl, hM⟩
set_option maxHeartbeats 1000000 in
theorem lose_c (h : Mch w0 w X x a n S most s) (m : Int) :
    Calls Tryz.prog 16 #[.pointer (some ⟨x, 0, none⟩), .int .i64 m] w fun r w' => r = .returned (.bool (inB m s.K.length)) ∧ Mch w0 w' (Gr X w w') x a n S most { s with K := dropI s.K m } ∧ Turn X w w' := by
  obtain ⟨XM, XB, XT, tb, tr, pv, h⟩ := h
  obtain ⟨-, -, c2, -⟩ := row5 h.row
  have hC := h.lose m
  clear h
  go_enter Tryz.func16, Tryz.ntmps16
  go_wp2_with fail
  refine hC.mono ?_
  rintro e w1 ⟨rfl, hM⟩
  clear hC c2
  go_wp2
  go_ret
  exact ⟨rfl, hM⟩

def flVa (s : St) (i : Int) (y : Nat) : St := { s with E := TB.keepP (fun e => TB.mB e i y) s.E, K := TR.keepP (fun e => TR.mB e i y) s.K }
def flAs (s : St) (i : Int) : St := { s with E := TB.keepP (fun e => decide (e.aid = i)) s.E, K := TR.keepP (fun e => decide (e.aid = i)) s.K }
def flAll (s : St) : St := { s with E := [], K := [] }

set_option maxHeartbeats 1000000 in
theorem flushVa_c (h : Mch w0 w X x a n S most s) (i : Int) (y : Nat) (hy : y < 18446744073709551616) :
    Calls Tryz.prog 17 #[.pointer (some ⟨x, 0, none⟩), .int .i64 i, .int .u64 y] w fun r w' => r = .returned (.tuple #[]) ∧ Mch w0 w' (Gr X w w') x a n S most (flVa s i y) ∧ Turn X w w' := by
  have H0 := Hid.mk h
  obtain ⟨XM, XB, XT, tb, tr, pv, h⟩ := h
  obtain ⟨-, c1, -⟩ := row5 h.row
  have hl := h.wf.el9
  have HC := Hid.mk (TB.flushVa_c h.buf (by omega) i y hy)
  have H := Hid.mk h
  clear h hl
  go_enter Tryz.func17, Tryz.ntmps17
  go_wp2_with fail
  refine HC.out.mono ?_
  rintro e w1 ⟨rfl, hB, hT⟩
  obtain ⟨hM1, hT1⟩ := H.out.filled hT (H.out.buf.xp hT.size hB) (H.out.wf.subE (keepB_sub _ _))
  have HT1 := Hid.mk hT1
  have HM1 := Hid.mk hM1
  clear HC c1 hB hT H hT1
  obtain ⟨XM1, XB1, XT1, tb1, tr1, pv1, h1⟩ := hM1
  obtain ⟨-, -, c2, -⟩ := row5 h1.row
  have hl := h1.wf.el9
  have HC := Hid.mk (TR.flushVa_c h1.trl (by omega) i y hy)
  have H := Hid.mk h1
  clear h1 hl
  go_wp2_with fail
  refine HC.out.mono ?_
  rintro e w2 ⟨rfl, hB, hT⟩
  have h2 := H.out.marked hT (H.out.trl.xp hT.size hB) (H.out.wf.subK (keepR_sub _ _))
  clear HC c2 hB hT H
  go_wp2
  go_end0
  exact ⟨rfl, H0.out.gr2 (Below.refl _ _) HT1.out (Below.refl _ _) h2.1 h2.2⟩
set_option maxHeartbeats 1000000 in
theorem flushAsid_c (h : Mch w0 w X x a n S most s) (i : Int) :
    Calls Tryz.prog 21 #[.pointer (some ⟨x, 0, none⟩), .int .i64 i] w fun r w' => r = .returned (.tuple #[]) ∧ Mch w0 w' (Gr X w w') x a n S most (flAs s i) ∧ Turn X w w' := by
  have H0 := Hid.mk h
  obtain ⟨XM, XB, XT, tb, tr, pv, h⟩ := h
  obtain ⟨-, c1, -⟩ := row5 h.row
  have hl := h.wf.el9
  have HC := Hid.mk (TB.flushAsid_c h.buf (by omega) i)
  have H := Hid.mk h
  clear h hl
  go_enter Tryz.func21, Tryz.ntmps21
  go_wp2_with fail
  refine HC.out.mono ?_
  rintro e w1 ⟨rfl, hB, hT⟩
  obtain ⟨hM1, hT1⟩ := H.out.filled hT (H.out.buf.xp hT.size hB) (H.out.wf.subE (keepB_sub _ _))
  have HT1 := Hid.mk hT1
  have HM1 := Hid.mk hM1
  clear HC c1 hB hT H hT1
  obtain ⟨XM1, XB1, XT1, tb1, tr1, pv1, h1⟩ := hM1
  obtain ⟨-, -, c2, -⟩ := row5 h1.row
  have hl := h1.wf.el9
  have HC := Hid.mk (TR.flushAsid_c h1.trl (by omega) i)
  have H := Hid.mk h1
  clear h1 hl
  go_wp2_with fail
  refine HC.out.mono ?_
  rintro e w2 ⟨rfl, hB, hT⟩
  have h2 := H.out.marked hT (H.out.trl.xp hT.size hB) (H.out.wf.subK (keepR_sub _ _))
  clear HC c2 hB hT H
  go_wp2
  go_end0
  exact ⟨rfl, H0.out.gr2 (Below.refl _ _) HT1.out (Below.refl _ _) h2.1 h2.2⟩
set_option maxHeartbeats 1000000 in
theorem flushAll_c (h : Mch w0 w X x a n S most s) :
    Calls Tryz.prog 20 #[.pointer (some ⟨x, 0, none⟩)] w fun r w' => r = .returned (.tuple #[]) ∧ Mch w0 w' (Gr X w w') x a n S most (flAll s) ∧ Turn X w w' := by
  have H0 := Hid.mk h
  obtain ⟨XM, XB, XT, tb, tr, pv, h⟩ := h
  obtain ⟨-, c1, -⟩ := row5 h.row
  have hl := h.wf.el9
  have HC := Hid.mk (TB.flushAll_c h.buf (by omega))
  have H := Hid.mk h
  clear h hl
  go_enter Tryz.func20, Tryz.ntmps20
  go_wp2_with fail
  refine HC.out.mono ?_
  rintro e w1 ⟨rfl, hB, hT⟩
  obtain ⟨hM1, hT1⟩ := H.out.filled hT (H.out.buf.xp hT.size hB) (H.out.wf.subE (List.nil_sublist _))
  have HT1 := Hid.mk hT1
  have HM1 := Hid.mk hM1
  clear HC c1 hB hT H hT1
  obtain ⟨XM1, XB1, XT1, tb1, tr1, pv1, h1⟩ := hM1
  obtain ⟨-, -, c2, -⟩ := row5 h1.row
  have hl := h1.wf.el9
  have HC := Hid.mk (TR.flushAll_c h1.trl (by omega))
  have H := Hid.mk h1
  clear h1 hl
  go_wp2_with fail
  refine HC.out.mono ?_
  rintro e w2 ⟨rfl, hB, hT⟩
  have h2 := H.out.marked hT (H.out.trl.xp hT.size hB) (H.out.wf.subK (List.nil_sublist _))
  clear HC c2 hB hT H
  go_wp2
  go_end0
  exact ⟨rfl, H0.out.gr2 (Below.refl _ _) HT1.out (Below.refl _ _) h2.1 h2.2⟩

set_option maxHeartbeats 1000000 in
theorem entries_c (h : Mch w0 w X x a n S most s) :
    Calls Tryz.prog 40 #[.pointer (some ⟨x, 0, none⟩)] w fun r w' => ∃ ad cap, r = .returned (.slice ad s.E.length cap) ∧ TB.RdA w' ad s.E ∧ (∀ b, ad = some b → w.heap.size ≤ b.block) ∧ Below w.heap.size w w' := by
  obtain ⟨XM, XB, XT, tb, tr, pv, h⟩ := h
  obtain ⟨-, c1, -⟩ := row5 h.row
  have hl := h.wf.el9
  have hC := TB.list_c h.buf (by omega)
  clear h
  go_enter Tryz.func40, Tryz.ntmps40
  go_wp2_with fail
  refine hC.mono ?_
  rintro e w1 ⟨ad, cap, rfl, hM⟩
  clear hC c1
  go_wp2
  go_ret
  exact ⟨ad, cap, rfl, hM⟩
set_option maxHeartbeats 1000000 in
theorem marks_c (h : Mch w0 w X x a n S most s) :
    Calls Tryz.prog 41 #[.pointer (some ⟨x, 0, none⟩)] w fun r w' => ∃ ad cap, r = .returned (.slice ad s.K.length cap) ∧ TR.RdA w' ad s.K ∧ (∀ b, ad = some b → w.heap.size ≤ b.block) ∧ Below w.heap.size w w' := by
  obtain ⟨XM, XB, XT, tb, tr, pv, h⟩ := h
  obtain ⟨-, -, c2, -⟩ := row5 h.row
  have hl := h.wf.el9
  have hC := TR.list_c h.trl (by omega)
  clear h
  go_enter Tryz.func41, Tryz.ntmps41
  go_wp2_with fail
  refine hC.mono ?_
  rintro e w1 ⟨ad, cap, rfl, hM⟩
  clear hC c2
  go_wp2
  go_ret
  exact ⟨ad, cap, rfl, hM⟩

end
end Go.Proofs.YtndjhedoandinaaGreatDoor.MM

/- Machines: the register; New. -/
namespace Go.Proofs.YtndjhedoandinaaGreatDoor.MM
open Go.RowKit Go.Maps

/-- A register's word. -/
def rgB (y : Nat) : Bool := decide (y % 4096 = 0 ∧ y < 72057594037927936)
theorem rgB_rest {y : Nat} (hy : y < 18446744073709551616) : restR y = 0 ↔ rgB y = true := by
  rw [restR_mod y hy]
  unfold rgB
  rw [decide_eq_true_eq]
  omega
theorem rgB_out {y : Nat} (h : rgB y = true) : outV y = y % 281474976710656 ∧ getV 48 8 y = y / 281474976710656 := by
  unfold rgB at h
  rw [decide_eq_true_eq] at h
  have e1 : getV 48 8 y = y / 281474976710656 % 256 := getV_mod (l := 48) (n := 8) (by decide) y
  rw [outV_mod, e1]
  omega
def setRg (s : St) (y : Nat) : St := if rgB y = true then { s with rg := some (y % 281474976710656, y / 281474976710656) } else s
def setN (y : Nat) : Int := if rgB y = true then 0 else 10

theorem tA_none (W : World) : (Instr.typeAssert .nilIface 20 120 true).run Tryz.prog W = .ok (.tuple #[.agg #[.int .u64 0, .int .i64 0], .bool false]) W := by kernel_rfl
theorem tA_some (W : World) (v : Value) : (Instr.typeAssert (.iface 120 v) 20 120 true).run Tryz.prog W = .ok (.tuple #[v, .bool true]) W := by kernel_rfl
theorem info_any : (Tryz.prog.info? 20).map (·.size) = some 1 := by kernel_rfl
theorem info_base : (Tryz.prog.info? 120).map (·.size) = some 2 := by kernel_rfl

theorem Wf.reg {most : Int} {s : St} (h : Wf most s) (rg' : Option (Nat × Nat)) (hr : ∀ r i, rg' = some (r, i) → r < 281474976710656 ∧ r % 4096 = 0 ∧ i ≤ 255) : Wf most { s with rg := rg' } :=
  ⟨h.m1, h.m64, h.el, h.kl, h.er, h.eo, h.kr, hr, h.pl, h.pv, h.nd⟩

section
variable {w0 w : World} {X : Nat → Prop} {x a n S : Nat} {most : Int} {s : St}

set_option maxHeartbeats 1000000 in
theorem off_c (h : Mch w0 w X x a n S most s) :
    Calls Tryz.prog 36 #[.pointer (some ⟨x, 0, none⟩)] w fun r w' => r = .returned (.tuple #[]) ∧ Mch w0 w' (Gr X w w') x a n S most { s with rg := none } ∧ Turn X w w' := by
  obtain ⟨XM, XB, XT, tb, tr, pv, h⟩ := h
  have H := Hid.mk h
  obtain ⟨-, -, -, c3, -⟩ := row5 h.row
  have hrow := h.row
  clear h
  go_enter Tryz.func36, Tryz.ntmps36
  go_wp2_with
    first
    | (refine wpList_store_segTo rfl 20 _ _ rfl rfl x 3 .nilIface #[.nilIface] rfl rfl rfl 124 _ hrow (show 3 + 1 ≤ 5 by decide) info_any (by simp [Value.oneCell']) #[.pointer (some ⟨a, 0, none⟩), .pointer (some ⟨tb, 0, none⟩), .pointer (some ⟨tr, 0, none⟩), .nilIface, pv] rfl ?_
       intro wq hq hT)
    | fail
  go_end0
  exact ⟨rfl, H.out.rowed (Below.refl _ _) hT hq (H.out.pln.kept hT.size (fun g hg hlt => ⟨⟨Or.inl hg.1, hg.2⟩, hT.block g hlt hg.2.2.2.2⟩)) (H.out.wf.reg none (fun _ _ c => by cases c))⟩

set_option maxHeartbeats 1000000 in
theorem set_c (h : Mch w0 w X x a n S most s) (y : Nat) (hy : y < 18446744073709551616) :
    Calls Tryz.prog 11 #[.pointer (some ⟨x, 0, none⟩), .int .u64 y] w fun r w' => r = .returned (.int .i64 (setN y)) ∧ Mch w0 w' (Gr X w w') x a n S most (setRg s y) ∧ Turn X w w' := by
  have H0 := Hid.mk h
  obtain ⟨XM, XB, XT, tb, tr, pv, h⟩ := h
  have H := Hid.mk h
  have hF := h.fld
  clear h
  cases hr : rgB y
  · have hR : restR y ≠ 0 := fun c => by rw [(rgB_rest hy).1 c] at hr; cases hr
    have HC := Hid.mk (readBase_bad y hy hR w hF.t.d hF.a)
    have e1 : setN y = 10 := by unfold setN; rw [hr]; rfl
    have e2 : setRg s y = s := by unfold setRg; rw [hr]; rfl
    rw [e1, e2]
    clear hF hR
    go_enter Tryz.func11, Tryz.ntmps11
    go_wp2_with fail
    refine HC.out.mono ?_
    rintro e w1 ⟨rfl, hb⟩
    clear HC
    go_wp2
    go_ret
    exact ⟨rfl, H0.out.gr0 hb⟩
  · have hR : restR y = 0 := (rgB_rest hy).2 hr
    have HC := Hid.mk (readBase_ok y hy hR w hF.t.d hF.a)
    obtain ⟨o1, o2⟩ := rgB_out hr
    rw [o1, o2] at HC
    have e1 : setN y = 0 := by unfold setN; rw [hr]; rfl
    have e2 : setRg s y = { s with rg := some (y % 281474976710656, y / 281474976710656) } := by unfold setRg; rw [hr]; rfl
    have HW : Hid (Wf most { s with rg := some (y % 281474976710656, y / 281474976710656) }) := H.out.wf.reg _ (fun r i c => by
      unfold rgB at hr
      rw [decide_eq_true_eq] at hr
      simp only [Option.some.injEq, Prod.mk.injEq] at c
      omega)
    rw [e1, e2]
    clear hF hR o1 o2 hr hy
    generalize y % 281474976710656 = R at *
    generalize y / 281474976710656 = I at *
    go_enter Tryz.func11, Tryz.ntmps11
    go_wp2_with fail
    refine HC.out.mono ?_
    rintro e w1 ⟨rfl, hb⟩
    have hrow := block_later hb H.out.row
    obtain ⟨-, -, -, c3, -⟩ := row5 hrow
    clear HC
    go_wp2_with
      first
      | (refine wpList_store_segTo rfl 20 _ _ rfl rfl x 3 (.iface 120 (.agg #[.int .u64 (R : Nat), .int .i64 (I : Nat)])) #[.iface 120 (.agg #[.int .u64 (R : Nat), .int .i64 (I : Nat)])] rfl rfl rfl 124 _ hrow (show 3 + 1 ≤ 5 by decide) info_any (by simp [Value.oneCell']) #[.pointer (some ⟨a, 0, none⟩), .pointer (some ⟨tb, 0, none⟩), .pointer (some ⟨tr, 0, none⟩), .iface 120 (.agg #[.int .u64 (R : Nat), .int .i64 (I : Nat)]), pv] rfl ?_
         intro wq hq hT)
      | fail
    go_ret
    exact ⟨rfl, H.out.rowed hb hT hq (H.out.pln.kept (Nat.le_trans hb.size hT.size) (fun g hg hlt => ⟨⟨Or.inl hg.1, hg.2⟩, (hT.block g (Nat.lt_of_lt_of_le hlt hb.size) hg.2.2.2.2).trans (hb.block g hlt)⟩)) HW.out⟩

/-- What Register tells. -/
def regW : Option (Nat × Nat) → Nat
  | none => 0
  | some (r, i) => r + i * 281474976710656

set_option maxHeartbeats 1000000 in
theorem register_c (h : Mch w0 w X x a n S most s) :
    Calls Tryz.prog 44 #[.pointer (some ⟨x, 0, none⟩)] w fun r w' => r = .returned (.tuple #[.int .u64 (regW s.rg : Nat), .bool s.rg.isSome]) ∧ Below w.heap.size w w' := by
  obtain ⟨XM, XB, XT, tb, tr, pv, h⟩ := h
  have hF := h.fld
  have hrr := h.wf.rr
  obtain ⟨-, -, -, c3, -⟩ := row5 h.row
  clear h
  cases hg : s.rg with
  | none =>
    rw [hg] at c3
    change w.cell? _ = some .nilIface at c3
    show Calls _ _ _ _ (fun r w' => r = .returned (.tuple #[.int .u64 0, .bool false]) ∧ Below w.heap.size w w')
    have t0 := tA_none
    clear hrr hF
    go_enter Tryz.func44, Tryz.ntmps44
    go_wp2
    go_ret2
    exact ⟨rfl, below_new _ _⟩
  | some q =>
    obtain ⟨R, I⟩ := q
    obtain ⟨r1, r2, r3⟩ := hrr R I hg
    rw [hg] at c3
    change w.cell? _ = some (.iface 120 (.agg #[.int .u64 (R : Nat), .int .i64 (I : Nat)])) at c3
    show Calls _ _ _ _ (fun r w' => r = .returned (.tuple #[.int .u64 ((R + I * 281474976710656 : Nat) : Int), .bool true]) ∧ Below w.heap.size w w')
    have t1 := fun W => tA_some W (.agg #[.int .u64 (R : Nat), .int .i64 (I : Nat)])
    have hAl : alignedB R 12 = true := (aligned_mod R (k := 12) (by omega) (by omega)).trans (decide_eq_true r2)
    have hOu : isOutB R 12 = true := (isOut_mod R 12 (by omega) (by omega) (by omega)).trans (decide_eq_true ⟨r1, r2⟩)
    have HC := Hid.mk (fun W (hb : Below w.heap.size w W) => base_ok R I (by omega) hAl hOu r3 W (hF.t.d.later hb) (hF.a.later hb))
    clear hrr hF r1 r2 r3 hg hAl hOu
    generalize R + I * 281474976710656 = O at *
    go_enter Tryz.func44, Tryz.ntmps44
    go_wp2_with fail
    refine (HC.out _ ?_).mono ?_
    · exact below_new _ _
    rintro e w1 ⟨rfl, hb⟩
    go_wp2
    go_ret2
    exact ⟨rfl, below_tr (below_new _ _) hb⟩
end

theorem new_bad {w : World} {most : Int} (h : most < 1 ∨ 64 < most) (a : Nat) :
    Calls Tryz.prog 32 #[.pointer (some ⟨a, 0, none⟩), .int .i64 most] w fun r w' => r = .returned (.tuple #[.pointer none, .int .i64 12]) ∧ w = w' := by
  have hC := TB.new_bad most h w
  clear h
  go_enter Tryz.func32, Tryz.ntmps32
  go_wp2_with fail
  refine hC.mono ?_
  rintro e w1 ⟨rfl, rfl⟩
  clear hC
  go_wp2
  go_ret2
  exact ⟨rfl, rfl⟩
set_option maxHeartbeats 1000000 in
theorem new_ok {w0 w : World} {XM : Nat → Prop} {a S n : Nat} {f : Nat → Nat} {most : Int} (hM : MemAt w XM a S n f) (hlo : ∀ i, XM i → w0.heap.size ≤ i) (hB : Below w0.heap.size w0 w) (hF : FA w0) (m1 : 1 ≤ most) (m64 : most ≤ 64) :
    Calls Tryz.prog 32 #[.pointer (some ⟨a, 0, none⟩), .int .i64 most] w fun r w' => ∃ x, r = .returned (.tuple #[.pointer (some ⟨x, 0, none⟩), .int .i64 0]) ∧ Mch w0 w' (Gr XM w w') x a n S most ⟨f, [], [], none, []⟩ ∧ Below w.heap.size w w' := by
  have hC := fun W => TB.new_ok most m1 m64 W
  have hD := fun W => TR.new_ok most m1 m64 W
  have HC := Hid.mk hC
  have HD := Hid.mk hD
  have HM := Hid.mk (And.intro m1 m64)
  clear hC hD m1 m64
  go_enter Tryz.func32, Tryz.ntmps32
  go_wp2_with fail
  refine (HC.out _).mono ?_
  rintro e w1 ⟨rfl, hb1, hB1⟩
  have HB1 := Hid.mk (And.intro hb1 hB1)
  clear HC hb1 hB1
  go_wp2_with fail
  refine (HD.out _).mono ?_
  rintro e w2 ⟨rfl, hb2, hB2⟩
  have HB2 := Hid.mk (And.intro hb2 hB2)
  clear HD hb2 hB2
  go_wp2
  go_ret2
  obtain ⟨hb1, hB1⟩ := HB1.out
  obtain ⟨hb2, hB2⟩ := HB2.out
  have s1 := tbuf_lt hB1 _ rfl
  have s2 := TR.buf_lt hB2 _ rfl
  have e1 := hb1.size
  have e2 := hb2.size
  have e0 := hB.size
  have hb3 : Below w2.heap.size w2 (w2.alloc (.cells #[.pointer (some ⟨a, 0, none⟩), .pointer (some ⟨w.heap.size, 0, none⟩), .pointer (some ⟨w1.heap.size, 0, none⟩), .nilIface, .slice none 0 0] 124)) := below_new _ _
  have hbA := below_tr (below_tr hb1 hb2) hb3
  have e3 : (w2.alloc (.cells #[.pointer (some ⟨a, 0, none⟩), .pointer (some ⟨w.heap.size, 0, none⟩), .pointer (some ⟨w1.heap.size, 0, none⟩), .nilIface, .slice none 0 0] 124)).heap.size = w2.heap.size + 1 := by simp
  refine ⟨_, rfl, ⟨XM, fun i => i = w.heap.size, fun i => i = w1.heap.size, w.heap.size, w1.heap.size, .slice none 0 0, heap_alloc_new w2 _, hM.below hbA, hB1.later (below_tr hb2 hb3), hB2.later hb3, ⟨none, 0, rfl, fun i hi => absurd hi (Nat.not_lt_zero _)⟩, ?_, ?_, ?_, ?_, ?_, ?_, ?_, ?_, ?_, ?_, ?_, ?_, ?_, hF, ?_⟩, hbA⟩
  · intro i hi c
    have := hM.lt i hi; omega
  · intro i hi c
    have := hM.lt i hi; omega
  · intro i hi c
    omega
  · intro hi
    have := hM.lt _ hi; omega
  · intro c; omega
  · intro c; omega
  · exact fun i hi => Or.inl hi
  · rintro i rfl; exact Or.inr ⟨Nat.le_refl _, by omega⟩
  · rintro i rfl; exact Or.inr ⟨e1, by omega⟩
  · exact Or.inr ⟨by omega, by omega⟩
  · intro i hi
    rcases hi with hi | hi
    · have := hM.lt _ hi; omega
    · exact hi.2
  · intro i hi
    rcases hi with hi | hi
    · exact hlo i hi
    · omega
  · exact below_tr hB hbA
  · exact ⟨HM.out.1, HM.out.2, by have := HM.out.1; show (0 : Int) ≤ most; omega, by have := HM.out.1; show (0 : Int) ≤ most; omega, (fun _ h => by cases h), (fun _ h => by cases h), (fun _ h => by cases h), (fun _ _ h => by cases h), Nat.zero_le _, (fun _ h => by cases h), List.nodup_nil⟩
end Go.Proofs.YtndjhedoandinaaGreatDoor.MM

/- Machines: where a walk begins. -/
namespace Go.Proofs.YtndjhedoandinaaGreatDoor.MM
open Go.RowKit Go.Maps

abbrev bsV (R I : Nat) : Value := .agg #[.int .u64 (R : Nat), .int .i64 (I : Nat)]
/-- The mark that leads furthest; whether a hint lets it lead; where the walk begins. -/
def bst (s : St) (I va : Nat) : TR.En := TR.bstE (fun e => TR.mB e (I : Int) va) s.K
def isLed (s : St) (I va : Nat) (h : Hn) : Bool := h.led && decide (1 ≤ (bst s I va).lv)
def stL (s : St) (I va : Nat) (h : Hn) : Int := if isLed s I va h = true then (bst s I va).lv else 0
def stT (s : St) (R I va : Nat) (h : Hn) : Nat := if isLed s I va h = true then (bst s I va).tb else R

theorem info_mk : (Tryz.prog.info? 112).map (·.size) = some 4 := by kernel_rfl
/-- A struct stored into a block, as one step of a region that draws. -/
theorem step_store_seg {P : Program} {ops : Array Oper} {op : Oper} {a : Act} {w : World} {Q : Exit → Act → World → Prop} {K : Act → World → Prop} {E : Prop} (hgd : op.guard = none) (hd : op.dst = none) (ty : TypeId) (x y : Operand) (ho : op.op = .store ty x y)
    (g o : Nat) (v : Value) (cells : Array Value) (hx : a.eval x = .pointer (some ⟨g, o, none⟩)) (hy : a.eval y = v) (hc : v.cells = cells)
    (t : TypeId) (cur : Array Value) (hg : w.heap[g]? = some (.cells cur t (0, 0))) (hfit : o + cells.size ≤ cur.size) (hi : (P.info? ty).map (·.size) = some cells.size) (h1 : cells.all (·.oneCell') = true)
    (new : Array Value) (hnew : segA cur o cells.toList = new)
    (h : ∀ wq, wq.heap[g]? = some (.cells new t (0, 0)) → Turn (fun i => i = g) w wq → K a wq) : if Region.wanted op (yielded ops a.tmps) = true then Oper.wp P op a w K Q else E := by
  have hw : Region.wanted op (yielded ops a.tmps) = true := by simp [Region.wanted, hgd]
  rw [if_pos hw]
  have hst := run_storeCells_at P g o t cells.toList 0 cur w hg (by simpa using hfit) (fun v hv => (Array.all_eq_true_iff_forall_mem.1 h1) v (by simpa using hv))
  have hsv : (storeVar ty ⟨g, o, none⟩ v).run P w = .ok () (w.setRow g new) := by
    cases hq : P.info? ty with
    | none => simp [hq] at hi
    | some i =>
      have hs : cells.size = i.size := by simp [hq] at hi; omega
      simp only [Nat.add_zero] at hst
      rw [← hnew]
      simp [storeVar, sizeOf, typeInfo, hq, hc, hs, hst, segA]
  unfold Oper.wp execOp
  simp only [ho, hx, hy, Instr.storeAt, Instr.sureAddr, Sem.run_bind, Sem.run_pure, Result.andThen_ok, hsv]
  have h2 := h _ (setRow_heap _ _ _ _ _ _ hg) (turn_setRow _ _ _)
  show K (a.put op.dst undef) _
  rw [hd]
  exact h2

section
variable {w0 w : World} {X : Nat → Prop} {x a n S : Nat} {most : Int} {s : St}

theorem heap2_0 (w : World) (a b : Obj) : ((w.alloc a).alloc b).heap[w.heap.size]? = some a := block_later (below_new _ _) (heap_alloc_new _ _)

set_option maxHeartbeats 2000000 in
set_option maxRecDepth 100000 in
theorem start_c (h : Mch w0 w X x a n S most s) (R I va : Nat) (hn : Hn) (hva : va < 18446744073709551616) :
    Calls Tryz.prog 92 #[.pointer (some ⟨x, 0, none⟩), bsV R I, .int .u64 va, hn.v] w fun r w' => r = .returned (.tuple #[.int .i64 (stL s I va hn), .int .u64 (stT s R I va hn : Nat)]) ∧ Below w.heap.size w w' := by
  obtain ⟨XM, XB, XT, tb, tr, pv, h⟩ := h
  obtain ⟨hf, hl, hk⟩ := hn
  cases hl
  · show Calls _ _ _ _ (fun r w' => r = .returned (.tuple #[.int .i64 0, .int .u64 (R : Nat)]) ∧ Below w.heap.size w w')
    clear h
    go_enter Tryz.func92, Tryz.ntmps92
    go_wp2
    go_quiet (fail)
    go_wp2
    go_ret2
    exact ⟨rfl, TB.below_dN (below2 _ _ _) _⟩
  · have HC := Hid.mk (fun W (hb : Below w.heap.size w W) => TR.best_c (h.trl.later hb) (by have := h.wf.el9; omega) (I : Int) va hva)
    have H := Hid.mk h
    have c2 := (row5 (block_later (below2 w (.cells #[.int .u64 (R : Nat), .int .i64 (I : Nat)] 120) (.cells #[.bool hf, .bool true, .bool hk] 38)) h.row)).2.2.1
    clear h hva
    go_enter Tryz.func92, Tryz.ntmps92
    have hK := heap2_0 w (.cells #[.int .u64 (R : Nat), .int .i64 (I : Nat)] 120) (.cells #[.bool hf, .bool true, .bool hk] 38)
    have HBW := Hid.mk (below2 w (.cells #[.int .u64 (R : Nat), .int .i64 (I : Nat)] 120) (.cells #[.bool hf, .bool true, .bool hk] 38))
    have e1 : stL s I va ⟨hf, true, hk⟩ = if decide (1 ≤ (bst s I va).lv) = true then (bst s I va).lv else 0 := rfl
    have e2 : stT s R I va ⟨hf, true, hk⟩ = if decide (1 ≤ (bst s I va).lv) = true then (bst s I va).tb else R := rfl
    rw [e1, e2]
    change Hid (∀ W, Below w.heap.size w W → Calls _ _ _ W fun r w' => r = .returned (.tuple #[(bst s I va).v, .bool (decide (1 ≤ (bst s I va).lv))]) ∧ Below W.heap.size W w') at HC
    clear e1 e2
    generalize bst s I va = b at *
    obtain ⟨b0, b1, b2, b3⟩ := b
    simp only [TR.En.v] at HC
    go_upto_region 2 with fail
    generalize (w.alloc (.cells #[.int .u64 (R : Nat), .int .i64 (I : Nat)] 120)).alloc (.cells #[.bool hf, .bool true, .bool hk] 38) = W at *
    obtain ⟨h0, h1⟩ := TR.row2c hK
    have k0 := c2
    have k1 := h1
    have k0z := c2
    have k1z := h1
    go_cut [10, 11] (fun s10 s11 wc => ∃ K, s10 = .pointer (some ⟨K, 0, none⟩) ∧ s11 = .bool (decide (1 ≤ b2)) ∧ Below W.heap.size W wc ∧ W.heap.size ≤ K ∧ wc.heap[K]? = some (.cells #[.int .i64 b0, .int .u64 (b1 : Nat), .int .i64 b2, .int .u64 (b3 : Nat)] 112 (0, 0)))
    case first =>
      refine wp_region_noPanic ?_
      refine wp_region_held_drew (S := (fun w' => w'.cell? ⟨x, 2, none⟩ = some (.pointer (some ⟨tr, 0, none⟩)) ∧ w'.cell? ⟨w.heap.size, 1, none⟩ = some (.int .i64 (I : Nat)))) (by kernel_rfl) ?_ (fun hHeld => ?_)
      · exact ⟨cell_later (Below.refl _ _).drew k0, cell_later (Below.refl _ _).drew k1⟩
      replace k0 := cell_later (Below.refl _ W).drew k0
      replace k1 := cell_later (Below.refl _ W).drew k1
      refine TR.take_at (i := 0) (v := ?_) 15 rfl rfl (by kernel_rfl) (by kernel_rfl) (by kernel_rfl) (fun _ _ _ h => h) (Or.inl ⟨by rfl, ?_⟩) (by assumption) ?_
      rotate_left
      · (intro w' hSw; (try dsimp only at hSw); go_simp; all_goals with_reducible rfl)
      try simp only [Act.put, List.setIfInBounds_toArray, List.set_cons_zero, List.set_cons_succ]
      refine TR.take_at (i := 1) (v := ?_) 16 rfl rfl (by kernel_rfl) (by kernel_rfl) (by kernel_rfl) (fun _ _ _ h => h) (Or.inl ⟨by rfl, ?_⟩) (by assumption) ?_
      rotate_left
      · (intro w' hSw; (try dsimp only at hSw); go_simp; all_goals with_reducible rfl)
      try simp only [Act.put, List.setIfInBounds_toArray, List.set_cons_zero, List.set_cons_succ]
      refine TR.take_at (i := 2) (v := ?_) 17 rfl rfl (by kernel_rfl) (by kernel_rfl) (by kernel_rfl) (fun _ _ _ h => h) (Or.inl ⟨by rfl, ?_⟩) (by assumption) ?_
      rotate_left
      · (intro w' hSw; (try dsimp only at hSw); go_simp; all_goals with_reducible rfl)
      try simp only [Act.put, List.setIfInBounds_toArray, List.set_cons_zero, List.set_cons_succ]
      refine TR.take_at (i := 3) (v := ?_) 18 rfl rfl (by kernel_rfl) (by kernel_rfl) (by kernel_rfl) (fun _ _ _ h => h) (Or.inl ⟨by rfl, ?_⟩) (by assumption) ?_
      rotate_left
      · (intro w' hSw; (try dsimp only at hSw); go_simp; all_goals with_reducible rfl)
      try simp only [Act.put, List.setIfInBounds_toArray, List.set_cons_zero, List.set_cons_succ]
      refine TR.take_at (i := 4) (v := ?_) 19 rfl rfl (by kernel_rfl) (by kernel_rfl) (by kernel_rfl) (fun _ _ _ h => h) (Or.inl ⟨by rfl, ?_⟩) (by assumption) ?_
      rotate_left
      · (intro w' hSw; (try dsimp only at hSw); go_simp; all_goals with_reducible rfl)
      try simp only [Act.put, List.setIfInBounds_toArray, List.set_cons_zero, List.set_cons_succ]
      refine TR.take_at (i := 5) (v := ?_) 20 rfl rfl (by kernel_rfl) (by kernel_rfl) (by kernel_rfl) (fun _ _ _ h => h) (Or.inl ⟨by rfl, ?_⟩) (by assumption) ?_
      rotate_left
      · (intro w' hSw; (try dsimp only at hSw); go_simp; all_goals with_reducible rfl)
      try simp only [Act.put, List.setIfInBounds_toArray, List.set_cons_zero, List.set_cons_succ]
      refine TR.take_at (i := 6) (v := ?_) 21 rfl rfl (by kernel_rfl) (by kernel_rfl) (by kernel_rfl) (fun _ _ _ h => h) (Or.inl ⟨by rfl, ?_⟩) (by assumption) ?_
      rotate_left
      · (intro w' hSw; (try dsimp only at hSw); go_simp; all_goals with_reducible rfl)
      try simp only [Act.put, List.setIfInBounds_toArray, List.set_cons_zero, List.set_cons_succ]
      have HBz : Below W.heap.size W W.drew := (Below.refl _ _).drew
      generalize W.drew = Wd at *
      refine wpAnyH_ready (rs := [7, 11]) (by kernel_rfl) (by simp) ?_
      refine AllReadyH.cons rfl (fun K hK => ?_) (AllReadyH.cons rfl (fun K hK => ?_) AllReadyH.nil)
      · go_simp
        refine (HC.out _ (below_tr HBW.out HBz)).mono ?_
        rintro e v0 ⟨rfl, hbm⟩
        go_wp2_with fail
        replace k0 := cell_later hbm k0
        replace k1 := cell_later hbm k1
        replace HBz := below_tr HBz hbm
        clear hbm
        refine hK.out _ _ ⟨k0, k1⟩ (fun hHeldc0 => ?_)
        clear hK
        try simp only [Act.put, List.setIfInBounds_toArray, List.set_cons_zero, List.set_cons_succ]
        refine TR.take_at (i := 8) (v := ?_) 14 rfl rfl (by kernel_rfl) (by kernel_rfl) (by kernel_rfl) (fun _ _ _ h => h) (Or.inl ⟨by rfl, ?_⟩) (by assumption) ?_
        rotate_left
        · (intro w' hSw; (try dsimp only at hSw); go_simp; all_goals with_reducible rfl)
        try simp only [Act.put, List.setIfInBounds_toArray, List.set_cons_zero, List.set_cons_succ]
        refine TR.take_at (i := 9) (v := ?_) 23 rfl rfl (by kernel_rfl) (by kernel_rfl) (by kernel_rfl) (fun _ _ _ h => h) (Or.inl ⟨by rfl, ?_⟩) (by assumption) ?_
        rotate_left
        · (intro w' hSw; (try dsimp only at hSw); go_simp; all_goals with_reducible rfl)
        try simp only [Act.put, List.setIfInBounds_toArray, List.set_cons_zero, List.set_cons_succ]
        refine TR.take_at (i := 10) (v := ?_) 24 rfl rfl (by kernel_rfl) (by kernel_rfl) (by kernel_rfl) (fun _ _ _ h => h) (Or.inl ⟨by rfl, ?_⟩) (by assumption) ?_
        rotate_left
        · (intro w' hSw; (try dsimp only at hSw); go_simp; all_goals with_reducible rfl)
        try simp only [Act.put, List.setIfInBounds_toArray, List.set_cons_zero, List.set_cons_succ]
        refine wpAnyH_ready (rs := [11]) (by kernel_rfl) (by simp) ?_
        refine AllReadyH.cons rfl (fun K hK => ?_) AllReadyH.nil
        · go_simp
          have hbm := below_new (v0) (.cells #[.int .i64 0, .int .u64 0, .int .i64 0, .int .u64 0] 112)
          have hr0 := heap_alloc_new (v0) (.cells #[.int .i64 0, .int .u64 0, .int .i64 0, .int .u64 0] 112)
          have hg0 : W.heap.size ≤ (v0).heap.size := HBz.size
          replace k0 := cell_later hbm k0
          replace k1 := cell_later hbm k1
          replace HBz := below_tr HBz hbm
          clear hbm
          refine hK.out _ _ ⟨k0, k1⟩ (fun hHelda1 => ?_)
          clear hK
          try simp only [Act.put, List.setIfInBounds_toArray, List.set_cons_zero, List.set_cons_succ]
          generalize hva1 : (v0).alloc (.cells #[.int .i64 0, .int .u64 0, .int .i64 0, .int .u64 0] 112) = va1 at *
          generalize hka1 : (v0).heap.size = KA0 at *
          refine wpAnyH_ready (rs := [12]) (by kernel_rfl) (by simp) ?_
          refine AllReadyH.cons rfl (fun K hK => ?_) AllReadyH.nil
          refine step_store_seg rfl rfl 112 _ _ rfl KA0 0 _ #[.int .i64 b0, .int .u64 (b1 : Nat), .int .i64 b2, .int .u64 (b3 : Nat)] rfl rfl rfl 112 _ hr0 (show 0 + 4 ≤ 4 by decide) info_mk (by simp [Value.oneCell']) #[.int .i64 b0, .int .u64 (b1 : Nat), .int .i64 b2, .int .u64 (b3 : Nat)] rfl ?_
          intro ws0 hrq htq
          replace k0 := TR.turn_cell htq (fun c => by have := World.block_lt_of_cell? _ _ k0z; simp only at *; omega) k0
          replace k1 := TR.turn_cell htq (fun c => by have := World.block_lt_of_cell? _ _ k1z; simp only at *; omega) k1
          replace hr0 := hrq
          replace HBz := HBz.trans (htq.below (lo := W.heap.size) (fun i hi => by rw [hi]; exact hg0) HBz.size)
          clear hrq htq
          refine hK.out _ _ ⟨k0, k1⟩ (fun hHelds0 => ?_)
          clear hK
          try simp only [Act.put, List.setIfInBounds_toArray, List.set_cons_zero, List.set_cons_succ]
          refine TR.take_at (i := 13) (v := ?_) 11 rfl rfl (by kernel_rfl) (by kernel_rfl) (by kernel_rfl) (fun _ _ _ h => h) (Or.inl ⟨by rfl, ?_⟩) (by assumption) ?_
          rotate_left
          · (intro w' hSw; (try dsimp only at hSw); go_simp; all_goals with_reducible rfl)
          try simp only [Act.put, List.setIfInBounds_toArray, List.set_cons_zero, List.set_cons_succ]
          refine wpAnyH_done (by kernel_rfl) ?_ _
          refine NoPanic.normal ?_
          go_wp2_with fail
          go_meet
          exact ⟨_, rfl, rfl, HBz, hg0, hr0⟩
      · go_simp
        have hbm := below_new (Wd) (.cells #[.int .i64 0, .int .u64 0, .int .i64 0, .int .u64 0] 112)
        have hr0 := heap_alloc_new (Wd) (.cells #[.int .i64 0, .int .u64 0, .int .i64 0, .int .u64 0] 112)
        have hg0 : W.heap.size ≤ (Wd).heap.size := HBz.size
        replace k0 := cell_later hbm k0
        replace k1 := cell_later hbm k1
        replace HBz := below_tr HBz hbm
        clear hbm
        refine hK.out _ _ ⟨k0, k1⟩ (fun hHelda0 => ?_)
        clear hK
        try simp only [Act.put, List.setIfInBounds_toArray, List.set_cons_zero, List.set_cons_succ]
        generalize hva0 : (Wd).alloc (.cells #[.int .i64 0, .int .u64 0, .int .i64 0, .int .u64 0] 112) = va0 at *
        generalize hka0 : (Wd).heap.size = KA0 at *
        refine wpAnyH_ready (rs := [7]) (by kernel_rfl) (by simp) ?_
        refine AllReadyH.cons rfl (fun K hK => ?_) AllReadyH.nil
        · go_simp
          refine (HC.out _ (below_tr HBW.out HBz)).mono ?_
          rintro e v1 ⟨rfl, hbm⟩
          go_wp2_with fail
          replace k0 := cell_later hbm k0
          replace k1 := cell_later hbm k1
          replace hr0 := block_later hbm hr0
          replace HBz := below_tr HBz hbm
          clear hbm
          refine hK.out _ _ ⟨k0, k1⟩ (fun hHeldc1 => ?_)
          clear hK
          try simp only [Act.put, List.setIfInBounds_toArray, List.set_cons_zero, List.set_cons_succ]
          refine TR.take_at (i := 8) (v := ?_) 14 rfl rfl (by kernel_rfl) (by kernel_rfl) (by kernel_rfl) (fun _ _ _ h => h) (Or.inl ⟨by rfl, ?_⟩) (by assumption) ?_
          rotate_left
          · (intro w' hSw; (try dsimp only at hSw); go_simp; all_goals with_reducible rfl)
          try simp only [Act.put, List.setIfInBounds_toArray, List.set_cons_zero, List.set_cons_succ]
          refine TR.take_at (i := 9) (v := ?_) 23 rfl rfl (by kernel_rfl) (by kernel_rfl) (by kernel_rfl) (fun _ _ _ h => h) (Or.inl ⟨by rfl, ?_⟩) (by assumption) ?_
          rotate_left
          · (intro w' hSw; (try dsimp only at hSw); go_simp; all_goals with_reducible rfl)
          try simp only [Act.put, List.setIfInBounds_toArray, List.set_cons_zero, List.set_cons_succ]
          refine TR.take_at (i := 10) (v := ?_) 24 rfl rfl (by kernel_rfl) (by kernel_rfl) (by kernel_rfl) (fun _ _ _ h => h) (Or.inl ⟨by rfl, ?_⟩) (by assumption) ?_
          rotate_left
          · (intro w' hSw; (try dsimp only at hSw); go_simp; all_goals with_reducible rfl)
          try simp only [Act.put, List.setIfInBounds_toArray, List.set_cons_zero, List.set_cons_succ]
          refine wpAnyH_ready (rs := [12]) (by kernel_rfl) (by simp) ?_
          refine AllReadyH.cons rfl (fun K hK => ?_) AllReadyH.nil
          refine step_store_seg rfl rfl 112 _ _ rfl KA0 0 _ #[.int .i64 b0, .int .u64 (b1 : Nat), .int .i64 b2, .int .u64 (b3 : Nat)] rfl rfl rfl 112 _ hr0 (show 0 + 4 ≤ 4 by decide) info_mk (by simp [Value.oneCell']) #[.int .i64 b0, .int .u64 (b1 : Nat), .int .i64 b2, .int .u64 (b3 : Nat)] rfl ?_
          intro ws0 hrq htq
          replace k0 := TR.turn_cell htq (fun c => by have := World.block_lt_of_cell? _ _ k0z; simp only at *; omega) k0
          replace k1 := TR.turn_cell htq (fun c => by have := World.block_lt_of_cell? _ _ k1z; simp only at *; omega) k1
          replace hr0 := hrq
          replace HBz := HBz.trans (htq.below (lo := W.heap.size) (fun i hi => by rw [hi]; exact hg0) HBz.size)
          clear hrq htq
          refine hK.out _ _ ⟨k0, k1⟩ (fun hHelds0 => ?_)
          clear hK
          try simp only [Act.put, List.setIfInBounds_toArray, List.set_cons_zero, List.set_cons_succ]
          refine TR.take_at (i := 13) (v := ?_) 11 rfl rfl (by kernel_rfl) (by kernel_rfl) (by kernel_rfl) (fun _ _ _ h => h) (Or.inl ⟨by rfl, ?_⟩) (by assumption) ?_
          rotate_left
          · (intro w' hSw; (try dsimp only at hSw); go_simp; all_goals with_reducible rfl)
          try simp only [Act.put, List.setIfInBounds_toArray, List.set_cons_zero, List.set_cons_succ]
          refine wpAnyH_done (by kernel_rfl) ?_ _
          refine NoPanic.normal ?_
          go_wp2_with fail
          go_meet
          exact ⟨_, rfl, rfl, HBz, hg0, hr0⟩
    case rest =>
      obtain ⟨K, rfl, rfl, hB, hge, hr⟩ := hcut
      obtain ⟨q0, q1, q2, q3⟩ := TR.cells4 hr
      have h0' := cell_later hB h0
      have HB := Hid.mk (below_tr HBW.out hB)
      clear k0 k1 k0z k1z h0 h1 c2 hB HC
      by_cases hb : 1 ≤ b2
      · have d1 : decide (1 ≤ b2) = true := decide_eq_true hb
        rw [d1]
        go_wp2
        go_quiet (fail)
        go_wp2
        go_ret2
        exact ⟨rfl, TB.below_dN HB.out _⟩
      · have d1 : decide (1 ≤ b2) = false := decide_eq_false hb
        rw [d1]
        go_wp2
        go_quiet (fail)
        go_wp2
        go_ret2
        exact ⟨rfl, TB.below_dN HB.out _⟩
end
end Go.Proofs.YtndjhedoandinaaGreatDoor.MM

namespace Go.Proofs.YtndjhedoandinaaGreatDoor.MM
open Go.RowKit Go.Maps

/-- A leaf in plain Lean. -/
structure Lf where
  l : Int
  k : Int
  o : Nat
  u : Bool
  r : Bool
  x : Bool
  s : Bool
  a : Int
def Lf.cs (q : Lf) : List Value := [.int .i64 q.l, .int .i64 q.k, .int .u64 (q.o : Nat), .bool q.u, .bool q.r, .bool q.x, .bool q.s, .int .i64 q.a]
def lfR (r : Int × Int × Nat) : Lf := if r.1 = 0 then ⟨r.2.1, rdK r.2.1 r.2.2, rdO r.2.2, rdU r.2.1 r.2.2, rdR r.2.1 r.2.2, rdX r.2.1 r.2.2, rdS r.2.1 r.2.2, rdA r.2.1 r.2.2⟩ else ⟨0, 0, 0, false, false, false, false, 0⟩
def ftR (r : Int × Int × Nat) : Int × Int := if r.1 = 0 then (0, 0) else (r.1, r.2.1)
theorem leafL_cs (r : Int × Int × Nat) : leafL r = (lfR r).cs := by unfold leafL lfR; split <;> rfl
theorem faultL_cs (r : Int × Int × Nat) : faultL r = [.int .i64 (ftR r).1, .int .i64 (ftR r).2] := by unfold faultL ftR; split <;> rfl
def Lf.en (q : Lf) (I va : Nat) : TB.En := ⟨(I : Int), baseV va q.l, q.l, q.k, q.o, q.u, q.r, q.x, q.s, q.a⟩

/-- How many words ahead are tables. -/
def tkn : Int → WL → Nat
  | _, [] => 0
  | lv, p :: L => if TR.isT lv p.2 = true then tkn (lv + 1) L + 1 else 0
theorem tkn_uniq : ∀ {L : WL} {lv : Int} {k : Nat}, k ≤ L.length → (∀ j : Nat, j < k → TR.isT (lv + j) L[j]!.2 = true) → (k < L.length → TR.isT (lv + k) L[k]!.2 = false) → k = tkn lv L
  | [], lv, k, h, _, _ => by simp at h; subst h; rfl
  | p :: L, lv, 0, _, _, h2 => by
    have := h2 (Nat.succ_pos _)
    unfold tkn
    rw [if_neg]
    simpa using this
  | p :: L, lv, k + 1, h, h1, h2 => by
    have h0 := h1 0 (Nat.succ_pos _)
    unfold tkn
    rw [if_pos (by simpa using h0)]
    rw [← tkn_uniq (L := L) (lv := lv + 1) (k := k) (by simpa using h) (fun j hj => ?_) (fun hk => ?_)]
    · have := h1 (j + 1) (by omega)
      rw [show lv + ((j + 1 : Nat) : Int) = lv + 1 + (j : Int) by omega] at this
      simpa using this
    · have := h2 (by simpa using hk)
      rw [show lv + ((k + 1 : Nat) : Int) = lv + 1 + (k : Int) by omega] at this
      simpa using this

/-- The walk by a hint; what is left of it. -/
def wkO (S : Nat) (s : St) (R I va : Nat) (h : Hn) : WL × Int × Int × Nat := wk0 S s.f (stL s I va h) (stT s R I va h) va
def kK (S : Nat) (most : Int) (s : St) (R I va : Nat) (h : Hn) : List TR.En :=
  if h.keep = true then TR.wdL most (I : Int) va (stL s I va h) (fun j => (wkO S s R I va h).1[j]!.2) s.K (tkn (stL s I va h) (wkO S s R I va h).1) else s.K
def kE (S : Nat) (most : Int) (s : St) (R I va : Nat) (h : Hn) : List TB.En :=
  if (h.fill && (lfR (wkO S s R I va h).2).s) = true then TB.fillL s.E most ((lfR (wkO S s R I va h).2).en I va) else s.E
def wdS (S : Nat) (most : Int) (s : St) (R I va : Nat) (h : Hn) : St := { s with E := kE S most s R I va h, K := kK S most s R I va h }

theorem bst_ok (s : St) (I va : Nat) : bst s I va = TR.e0 ∨ ((bst s I va) ∈ s.K ∧ TR.mB (bst s I va) I va = true) := TR.bst_in _ _ _ (Nat.le_refl _)
theorem stL_lv {most : Int} {s : St} (h : Wf most s) (I va : Nat) (hn : Hn) : 0 ≤ stL s I va hn ∧ stL s I va hn ≤ 3 := by
  unfold stL
  split
  · rename_i hl
    unfold isLed at hl
    rw [Bool.and_eq_true, decide_eq_true_eq] at hl
    rcases bst_ok s I va with e | ⟨e, -⟩
    · rw [e]; exact ⟨by decide, by decide⟩
    · have := TR.right_lv (h.kr _ e).2
      omega
  · exact ⟨by decide, by decide⟩
theorem stT_lt {most : Int} {s : St} (h : Wf most s) {R : Nat} (hR : R < 281474976710656) (I va : Nat) (hn : Hn) : stT s R I va hn < 18446744073709551616 := by
  unfold stT
  split
  · rcases bst_ok s I va with e | ⟨e, -⟩
    · rw [e]; decide
    · exact (h.kr _ e).1.2
  · omega

theorem memV_fill {l : List TB.En} {m : Int} {e y : TB.En} (h : y ∈ TB.fillL l m e) : y ∈ l ∨ (y = e ∧ TB.rightE e = true) := by
  unfold TB.fillL at h
  split at h
  · rename_i hr
    split at h
    · exact Or.inl h
    · split at h
      · rcases List.mem_append.1 (List.mem_of_mem_eraseIdx h) with h1 | h1
        · exact Or.inl h1
        · exact Or.inr ⟨List.mem_singleton.1 h1, hr⟩
      · rcases List.mem_append.1 h with h1 | h1
        · exact Or.inl h1
        · exact Or.inr ⟨List.mem_singleton.1 h1, hr⟩
  · exact Or.inl h
theorem lenV_fill {l : List TB.En} {most : Int} {e : TB.En} (h : (l.length : Int) ≤ most) : ((TB.fillL l most e).length : Int) ≤ most := by
  unfold TB.fillL
  split
  · split
    · exact h
    · split
      · rw [List.length_eraseIdx_of_lt (by simp)]
        simp
        omega
      · rw [List.length_append]; simp; omega
  · exact h
theorem nodV_fill {l : List TB.En} {most : Int} {e : TB.En} (h : l.Nodup) : (TB.fillL l most e).Nodup := by
  unfold TB.fillL
  split
  · split
    · exact h
    · rename_i hm
      have h1 : (l ++ [e]).Nodup := by
        rw [List.nodup_append]
        refine ⟨h, (by simp), fun a ha b hb hab => ?_⟩
        rw [List.mem_singleton.1 hb] at hab
        exact hm (TB.memB_true (hab ▸ ha))
      split
      · exact h1.sublist (List.eraseIdx_sublist _ _)
      · exact h1
  · exact h
theorem okV_fill {l : List TB.En} {most : Int} {e : TB.En} (h : ∀ y ∈ l, y.ok) (he : e.ok) : ∀ y ∈ TB.fillL l most e, y.ok := fun y hy => by
  rcases memV_fill hy with h1 | ⟨h1, -⟩
  · exact h y h1
  · rw [h1]; exact he
theorem rtV_fill {l : List TB.En} {most : Int} {e : TB.En} (h : ∀ y ∈ l, TB.rightE y = true) : ∀ y ∈ TB.fillL l most e, TB.rightE y = true := fun y hy => by
  rcases memV_fill hy with h1 | ⟨h1, h2⟩
  · exact h y h1
  · rw [h1]; exact h2
theorem Wf.fill {most : Int} {s : St} (h : Wf most s) {e : TB.En} (he : e.ok) : Wf most { s with E := TB.fillL s.E most e } :=
  ⟨h.m1, h.m64, lenV_fill h.el, h.kl, rtV_fill h.er, okV_fill h.eo he, h.kr, h.rr, h.pl, h.pv, nodV_fill h.nd⟩
theorem lenR_fill {l : List TR.En} {most : Int} {e : TR.En} (h : (l.length : Int) ≤ most) : ((TR.fillL l most e).length : Int) ≤ most := by
  unfold TR.fillL
  split
  · split
    · exact h
    · split
      · rw [List.length_eraseIdx_of_lt (by simp)]
        simp
        omega
      · rw [List.length_append]; simp; omega
  · exact h
theorem memR_fill {l : List TR.En} {m : Int} {e y : TR.En} (h : y ∈ TR.fillL l m e) : y ∈ l ∨ (y = e ∧ TR.rightE e = true) := by
  unfold TR.fillL at h
  split at h
  · rename_i hr
    split at h
    · exact Or.inl h
    · split at h
      · rcases List.mem_append.1 (List.mem_of_mem_eraseIdx h) with h1 | h1
        · exact Or.inl h1
        · exact Or.inr ⟨List.mem_singleton.1 h1, hr⟩
      · rcases List.mem_append.1 h with h1 | h1
        · exact Or.inl h1
        · exact Or.inr ⟨List.mem_singleton.1 h1, hr⟩
  · exact Or.inl h
theorem wdL_len {most i0 : Int} {x : Nat} {lv : Int} {V : Nat → Nat} {l : List TR.En} (h : (l.length : Int) ≤ most) : ∀ k, ((TR.wdL most i0 x lv V l k).length : Int) ≤ most
  | 0 => h
  | k + 1 => by
    unfold TR.wdL
    split
    · exact lenR_fill (wdL_len h k)
    · exact wdL_len h k
theorem wdL_mem {most i0 : Int} {x : Nat} {lv : Int} {V : Nat → Nat} {l : List TR.En} {y : TR.En} : ∀ k, y ∈ TR.wdL most i0 x lv V l k → y ∈ l ∨ ∃ j, j < k ∧ y = TR.wdE i0 x lv V j ∧ TR.rightE y = true ∧ x < 281474976710656
  | 0, h => Or.inl h
  | k + 1, h => by
    unfold TR.wdL at h
    split at h
    · rename_i hx
      rcases memR_fill h with h1 | ⟨h1, h2⟩
      · rcases wdL_mem k h1 with h3 | ⟨j, hj, h3⟩
        · exact Or.inl h3
        · exact Or.inr ⟨j, by omega, h3⟩
      · exact Or.inr ⟨k, by omega, h1, h1 ▸ h2, of_decide_eq_true hx⟩
    · rcases wdL_mem k h with h3 | ⟨j, hj, h3⟩
      · exact Or.inl h3
      · exact Or.inr ⟨j, by omega, h3⟩
theorem Wf.mark {most : Int} {s : St} (h : Wf most s) {i0 : Int} {x : Nat} {lv : Int} {V : Nat → Nat} {k : Nat} : Wf most { s with K := TR.wdL most i0 x lv V s.K k } :=
  ⟨h.m1, h.m64, h.el, wdL_len h.kl k, h.er, h.eo, (fun e he => by
    rcases wdL_mem k he with h1 | ⟨j, -, h1, h2, -⟩
    · exact h.kr e h1
    · exact ⟨h1 ▸ TR.wdE_ok i0 x lv V j, h2⟩), h.rr, h.pl, h.pv, h.nd⟩
theorem lfR_o (r : Int × Int × Nat) : (lfR r).o < 18446744073709551616 := by
  unfold lfR
  split
  · exact rdO_lt _
  · show (0 : Nat) < 18446744073709551616
    decide
theorem en_ok (r : Int × Int × Nat) (I va : Nat) : ((lfR r).en I va).ok := ⟨by have := baseV_lt va (lfR r).l; show baseV va (lfR r).l < _; omega, lfR_o r⟩

theorem cells3 {w1 : World} {g t : Nat} {c0 c1 c2 : Value} (hh : w1.heap[g]? = some (.cells #[c0, c1, c2] t (0, 0))) : w1.cell? ⟨g, 0, none⟩ = some c0 ∧ w1.cell? ⟨g, 1, none⟩ = some c1 ∧ w1.cell? ⟨g, 2, none⟩ = some c2 := by
  refine ⟨?_, ?_, ?_⟩
  all_goals (rw [cell_of_row _ _ _ _ _ _ hh]; rfl)
section
variable {w0 w : World} {X XM XB XT : Nat → Prop} {x a tb tr n S : Nat} {most : Int} {s : St} {pv : Value}
/-- The trail's Walked, of a walk's own words. -/
theorem MchV.walked (h : MchV w0 w X XM XB XT x a tb tr n S most s pv) (I va : Nat) (hva : va < 18446744073709551616) (lv : Int) (h1 : 0 ≤ lv) (h2 : lv ≤ 3) (tb' : Nat) (p : Option Addr) (cap : Nat)
    (hp : Psl w (fun g => ¬ X g) (.slice p (wk0 S s.f lv tb' va).1.length cap) (wk0 S s.f lv tb' va).1) :
    Calls Tryz.prog 93 #[.pointer (some ⟨tr, 0, none⟩), .int .i64 (I : Nat), .int .u64 va, .int .i64 lv, .slice p (wk0 S s.f lv tb' va).1.length cap] w fun r w' => (∃ k : Int, r = .returned (.int .i64 k)) ∧ Mch w0 w' (Gr X w w') x a n S most { s with K := TR.wdL most (I : Int) va lv (fun j => (wk0 S s.f lv tb' va).1[j]!.2) s.K (tkn lv (wk0 S s.f lv tb' va).1) } ∧ Turn X w w' ∧ w'.heap[x]? = w.heap[x]? := by
  have hlen := wk0_len S s.f lv tb' va
  have hmem := h.mem
  obtain ⟨mb, pg, hmm⟩ := hmem
  have hlt := TR.wk0_lt (S := S) (f := s.f) (va := va) (tb := tb') (l := lv) hmm.fl hmm.s0.2.1
  clear hmm
  generalize (wk0 S s.f lv tb' va).1 = L at *
  have hst : StepsAt w p L.length (fun j => L[j]!.1) (fun j => L[j]!.2) := by
    refine ⟨fun i hi => ?_, fun i => (hlt i).1, fun i => (hlt i).2⟩
    obtain ⟨p', cap', e, hc⟩ := hp.form
    cases e
    obtain ⟨g, rfl, hg, q1, q2⟩ := hc i hi
    exact ⟨g, 0, rfl, hg, by rw [Nat.zero_add]; exact q1, by rw [Nat.zero_add]; exact q2⟩
  have hd : TR.notIn XT p := fun b hb hX => by
    rcases hp with ⟨e, -⟩ | ⟨g, c, e, hg, -⟩
    · simp only [Value.slice.injEq] at e
      rw [e.1] at hb; cases hb
    · simp only [Value.slice.injEq] at e
      rw [e.1] at hb; cases hb
      exact hg (h.ct _ hX)
  refine (TR.walked_c h.trl (by have := h.wf.el9; omega) (I : Int) va hva lv (by omega) (by omega) p L.length cap _ _ (by omega) hst hd (fun W ht => (h.flds ⟨ht.os, ht.tape, ht.output, ht.size, fun i hi hX => ht.block i hi (fun c => hX (h.ct i c))⟩).t)).mono ?_
  rintro r w' ⟨k, hk, q1, q2, rfl, hB, hT⟩
  have e := tkn_uniq hk q1 q2
  subst e
  have hq := h.marked hT hB (h.wf.mark (i0 := (I : Int)) (x := va) (lv := lv) (V := fun j => L[j]!.2))
  exact ⟨⟨_, rfl⟩, hq.1, hq.2, hT.block x (h.lt x h.cx) h.dt⟩
theorem MchV.fillE (h : MchV w0 w X XM XB XT x a tb tr n S most s pv) (e : TB.En) (he : e.ok) :
    Calls Tryz.prog 94 #[.pointer (some ⟨tb, 0, none⟩), e.v] w fun r w' => (∃ k : Int, r = .returned (.int .i64 k)) ∧ Mch w0 w' (Gr X w w') x a n S most { s with E := TB.fillL s.E most e } ∧ Turn X w w' ∧ w'.heap[x]? = w.heap[x]? := by
  refine (TB.fill_c e he h.buf (by have := h.wf.el9; omega) h.fld.t.d).mono ?_
  rintro r w' ⟨rfl, hB, hT⟩
  have hq := h.filled hT hB (h.wf.fill he)
  exact ⟨⟨_, rfl⟩, hq.1, hq.2, hT.block x (h.lt x h.cx) h.db⟩
end
end Go.Proofs.YtndjhedoandinaaGreatDoor.MM
