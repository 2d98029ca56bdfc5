import Derived.Test.YtjemnkijoiehmaaGreatDoorStFbM
import Derived.Test.YtjemnkijoiehmaaGreatDoorDkF3M
/- store: a store and its disk in memory; what a call on it leaves alone. -/
namespace Go.Proofs.YtjemnkijoiehmaaGreatDoor
open Go.RowKit Go.Maps
variable {Xm : Nat → Prop}
/-- Blocks that a store writes: maps, disks, rows of changes, stores, but none of others' (Xm). -/
def StB (Xm : Nat → Prop) (w : World) (k : Nat) : Prop := ((∃ es c, w.heap[k]? = some (.map es c)) ∨ ∃ c t f, w.heap[k]? = some (.cells c t f) ∧ (t = 54 ∨ t = 86 ∨ t = 49)) ∧ ¬ Xm k
/-- What a call on a store leaves alone. -/
def FrT (Xm : Nat → Prop) (B : Nat) (w w' : World) : Prop := Fr w w' (fun k => B ≤ k ∧ StB Xm w k)
theorem FrT.refl (B : Nat) (w : World) : FrT Xm B w w := Fr.refl _ _
theorem FrT.trans {B : Nat} {a b c : World} (h : FrT Xm B a b) (k : FrT Xm B b c) : FrT Xm B a c := by
  refine ⟨k.os.trans h.os, k.tape.trans h.tape, k.output.trans h.output, Nat.le_trans h.size k.size, fun i hi hn => ?_⟩
  have e := h.block i hi hn
  refine (k.block i (Nat.lt_of_lt_of_le hi h.size) (fun ⟨h1, h2⟩ => hn ⟨h1, ?_⟩)).trans e
  unfold StB at h2 ⊢
  rw [← e]
  exact h2
theorem FrT.new {B : Nat} {w w' : World} (h : Below w.heap.size w w') : FrT Xm B w w' := Fr.ofBelow h _
theorem FrT.below {B : Nat} {w w' : World} (h : FrT Xm B w w') (hB : B ≤ w.heap.size) : Below B w w' := Fr.below h hB (fun _ hk => hk.1)
theorem FrD.toT {Ym : Nat → Prop} {B : Nat} {w w' : World} (h : FrD Ym B w w') (hY : ∀ k, Xm k → Ym k) : FrT Xm B w w' := by
  refine Fr.mono h (fun k _ s => ⟨s.1, ?_, fun hx => s.2.2 (hY k hx)⟩)
  rcases s.2.1 with s | ⟨c, t, f, h1, h2⟩
  · exact .inl s
  · exact .inr ⟨c, t, f, h1, h2.elim .inl (fun e => .inr (.inl e))⟩
theorem NrO.frT {w w' : World} {B D : Nat} {v : Value} {R : List Int} (h : NrO w B v R) (f : FrT Xm D w w') : NrO w' B v R := by
  refine h.kept f (fun k hk s => ?_)
  obtain ⟨_, c, f', hb⟩ := h.tag hk
  rcases s.2.1 with ⟨es, c', hm⟩ | ⟨c', t, f'', hm, ht⟩
  · rw [hb] at hm; cases hm
  · rw [hb] at hm
    cases hm
    rcases ht with ht | ht | ht <;> exact absurd ht (by decide)
theorem StBl.frD {w w' : World} {q p D : Nat} {bud sp : Int} {mb : Option Nat} {mv : Value} (h : StBl w q p bud sp mb mv) (f : FrD Xm D w w') : StBl w' q p bud sp mb mv := by
  refine (f.block q (lt_blk h) (fun s => ?_)).trans h
  rcases s.2.1 with ⟨es, c', hm⟩ | ⟨c', t, f'', hm, ht⟩
  · rw [h] at hm; cases hm
  · rw [h] at hm
    cases hm
    rcases ht with ht | ht <;> exact absurd ht (by decide)
theorem StBl.new {w w' : World} {q p : Nat} {bud sp : Int} {mb : Option Nat} {mv : Value} (h : StBl w q p bud sp mb mv) (hb : Below w.heap.size w w') : StBl w' q p bud sp mb mv := (hb.block q (lt_blk h)).trans h
theorem st_dkgrow {w w' : World} {S : Nat → Prop} {B p : Nat} {A : Dk} (h : DkAt Xm w B p A) (hf : Fr w w' S) (hS : ∀ k, S k → Xm k) : DkAt (fun k => Xm k ∨ (w.heap.size ≤ k ∧ k < w'.heap.size)) w' B p A := by
  obtain ⟨mn, ms, lv, h⟩ := h
  have h' : DA Xm w' B p A mn ms lv := h.kept hf (fun k s => ⟨fun e => h.nx k (.inl e) (hS k s), fun e => h.nx k (.inr (.inl e)) (hS k s), fun e => h.nx k (.inr (.inr (.inl e))) (hS k s), fun e => h.nx k (.inr (.inr (.inr e))) (hS k s)⟩)
  refine ⟨mn, ms, lv, { h' with nx := fun k e hx => ?_, lx := fun k hx => ?_ }⟩
  · rcases hx with hx | hx
    · exact h.nx k e hx
    · rcases e with e | e | e | e
      · have := h.plt
        omega
      · obtain ⟨es, c, hm⟩ := map_tag h.now e
        have := lt_blk hm
        omega
      · obtain ⟨es, c, hm⟩ := map_tag h.sure e
        have := lt_blk hm
        omega
      · obtain ⟨_, c, f, hm⟩ := row_tag h.row e
        have := lt_blk hm
        omega
  · rcases hx with hx | hx
    · exact h'.lx k hx
    · exact hx.2
theorem DkAt.sort {w : World} {B p : Nat} {A : Dk} (h : DkAt Xm w B p A) : SortF A.now := by
  obtain ⟨mn, ms, lv, h⟩ := h
  have := h.now
  cases mn with
  | none =>
    have e : A.now = [] := this
    rw [e]
    exact List.Pairwise.nil
  | some b =>
    have h2 : FMap w b A.now := this
    exact h2.1
/-- A store and its disk: c bounds the disk's changes and files. -/
structure SA0 (Xm : Nat → Prop) (w : World) (B q p : Nat) (K : St) (A : Dk) (c : Nat) (mb : Option Nat) (mv : Value) : Prop where
  blk : StBl w q p K.bud K.sp mb mv
  tx : IMo lvH w mb (heldO K.f K.near)
  mem : NrO w B mv K.near
  dk : DkAt (fun k => Xm k ∨ mb = some k) w B p A
  di : DkI A c
  ok : K.ok
  fl : Files K A
  hq : B ≤ q
  hm : ∀ k, mb = some k → B ≤ k
  nq : ¬ Xm q
  nm : ∀ k, mb = some k → ¬ Xm k
  nv : ∀ k, mv.ownBlock = some k → ¬ Xm k
def SA (Xm : Nat → Prop) (w : World) (B q p : Nat) (K : St) (c : Nat) : Prop := ∃ A mb mv, SA0 Xm w B q p K A c mb mv
section
variable {w w' : World} {B q p c : Nat} {K : St} {A : Dk} {mb : Option Nat} {mv : Value}
theorem SA0.lx (h : SA0 Xm w B q p K A c mb mv) : ∀ k, Xm k → k < w.heap.size := by
  obtain ⟨mn, ms, lv, hd⟩ := h.dk
  exact fun k hk => hd.lx k (.inl hk)
theorem SA0.qlt (h : SA0 Xm w B q p K A c mb mv) : q < w.heap.size := lt_blk h.blk
theorem SA0.mlt (h : SA0 Xm w B q p K A c mb mv) : ∀ k, mb = some k → k < w.heap.size := by
  intro k hk
  have := h.tx
  subst hk
  exact IMp.lt this
theorem SA0.vlt (h : SA0 Xm w B q p K A c mb mv) : ∀ k, mv.ownBlock = some k → k < w.heap.size := by
  intro k hk
  obtain ⟨_, c, f, hb⟩ := h.mem.tag hk
  exact lt_blk hb
/-- Others' blocks were written, new ones were laid: these are others', too. -/
theorem SA0.grow (h : SA0 Xm w B q p K A c mb mv) {S : Nat → Prop} (f : Fr w w' S) (hS : ∀ k, S k → Xm k) : SA0 (fun k => Xm k ∨ (w.heap.size ≤ k ∧ k < w'.heap.size)) w' B q p K A c mb mv := by
  have hd := st_dkgrow h.dk f (fun k s => .inl (hS k s))
  refine ⟨(f.block q h.qlt (fun s => h.nq (hS q s))).trans h.blk, h.tx.kept f (fun k e s => h.nm k e (hS k s)), h.mem.kept f (fun k e s => h.nv k e (hS k s)), hd.less (fun k hk => ?_), h.di, h.ok, h.fl, h.hq, h.hm, fun e => ?_, fun k e hx => ?_, fun k e hx => ?_⟩
  · rcases hk with (hk | hk) | hk
    · exact .inl (.inl hk)
    · exact .inr hk
    · exact .inl (.inr hk)
  · rcases e with e | e
    · exact h.nq e
    · have := h.qlt; omega
  · rcases hx with hx | hx
    · exact h.nm k e hx
    · have := h.mlt k e; omega
  · rcases hx with hx | hx
    · exact h.nv k e hx
    · have := h.vlt k e; omega
theorem SA0.less {Ym : Nat → Prop} (h : SA0 Xm w B q p K A c mb mv) (hY : ∀ k, Ym k → Xm k) : SA0 Ym w B q p K A c mb mv :=
  { h with
    dk := h.dk.less (fun k hk => hk.elim (fun e => .inl (hY k e)) .inr)
    nq := fun e => h.nq (hY q e)
    nm := fun k e x => h.nm k e (hY k x)
    nv := fun k e x => h.nv k e (hY k x) }
theorem SA0.kept (h : SA0 Xm w B q p K A c mb mv) {S : Nat → Prop} (f : Fr w w' S) (hS : ∀ k, S k → Xm k) : SA0 Xm w' B q p K A c mb mv := (h.grow f hS).less (fun _ => .inl)
theorem SA0.new (h : SA0 Xm w B q p K A c mb mv) (hb : Below w.heap.size w w') : SA0 Xm w' B q p K A c mb mv := h.kept (Fr.ofBelow hb (fun _ => False)) (fun _ f => f.elim)
theorem SA.new (h : SA Xm w B q p K c) (hb : Below w.heap.size w w') : SA Xm w' B q p K c := by
  obtain ⟨A, mb, mv, h⟩ := h
  exact ⟨A, mb, mv, h.new hb⟩
theorem SA.kept (h : SA Xm w B q p K c) {S : Nat → Prop} (f : Fr w w' S) (hS : ∀ k, S k → Xm k) : SA Xm w' B q p K c := by
  obtain ⟨A, mb, mv, h⟩ := h
  exact ⟨A, mb, mv, h.kept f hS⟩
theorem SA.grow (h : SA Xm w B q p K c) {S : Nat → Prop} (f : Fr w w' S) (hS : ∀ k, S k → Xm k) : SA (fun k => Xm k ∨ (w.heap.size ≤ k ∧ k < w'.heap.size)) w' B q p K c := by
  obtain ⟨A, mb, mv, h⟩ := h
  exact ⟨A, mb, mv, h.grow f hS⟩
theorem SA.less {Ym : Nat → Prop} (h : SA Xm w B q p K c) (hY : ∀ k, Ym k → Xm k) : SA Ym w B q p K c := by
  obtain ⟨A, mb, mv, h⟩ := h
  exact ⟨A, mb, mv, h.less hY⟩
theorem SA.mono (h : SA Xm w B q p K c) {d : Nat} (hd : c ≤ d) : SA Xm w B q p K d := by
  obtain ⟨A, mb, mv, h⟩ := h
  exact ⟨A, mb, mv, { h with di := h.di.mono hd }⟩
theorem SA.ok (h : SA Xm w B q p K c) : K.ok := by
  obtain ⟨A, mb, mv, h⟩ := h
  exact h.ok
end
/-- A frame of text, a text's file read, in this layer's words. -/
theorem sframe {s : Bs} (hs : s.length ≤ 140737488351232) (w : World) : Calls Tryz.prog 33 #[.string (str s)] w fun e w' => e = .returned (.string (str (frameB s))) ∧ Below w.heap.size w w' := frame_any (str s) w (by rw [str_size]; omega)
theorem ssum {s : Bs} (hs : s.length ≤ 140737488351232) (w : World) : Calls Tryz.prog 30 #[.string (str s)] w fun e w' => e = .returned (.int .u32 (crcN s)) ∧ w' = w := sum_any (str s) w (by rw [str_size]; unfold maxLen; omega)
theorem swrite {w : World} {B p c : Nat} {A : Dk} {s : Bs} {m : Int} (h : DkAt Xm w B p A) (hB : B ≤ w.heap.size) (hi : DkI A c) (hc : c ≤ 1000000) (h0 : 0 ≤ m) (h1 : m < 16) (hs : s.length ≤ 140737488351232) : Calls Tryz.prog 32 #[.pointer (some ⟨p, 0, none⟩), .string (str (fnm m)), .string (str (frameB s))] w fun r w' => r = .returned (.int .i64 0) ∧ DkAt Xm w' B p (A.add ⟨1, fnm m, [], frameB s⟩) ∧ FrD Xm B w w' := by
  obtain ⟨mn, ms, lv, h⟩ := h
  have := frameB_le s (by omega)
  exact write_ok h hB (quiet_nil hi.pv) hi.dead (fnm_ok h0 h1) (hi.bd hc 1 (by omega))
end Go.Proofs.YtjemnkijoiehmaaGreatDoor
