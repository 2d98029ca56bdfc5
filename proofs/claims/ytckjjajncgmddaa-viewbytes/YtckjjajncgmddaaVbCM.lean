import Derived.Test.YtckjjajncgmddaaVwLbM
import Derived.Test.YtckjjajncgmddaaFrameWM
/- ViewBytes: pieces of its code. -/
namespace Go.Proofs.Ytckjjajncgmddaa
open Go.RowKit
attribute [local go_sem] Oper.semAt_some
def headRV : Code → Option Nat
  | .region m _ _ => some m
  | .seq a _ => headRV a
  | _ => none
/-- The code from a region on. -/
def fromRV (n : Nat) : Code → Option Code
  | .seq a b => if headRV a = some n then some (.seq a b) else match fromRV n a with
    | some c => some c
    | none => fromRV n b
  | .region m l d => if m = n then some (.region m l d) else none
  | .block _ c => fromRV n c
  | .loop c => fromRV n c
  | .scope c => fromRV n c
  | .cond _ a b => match fromRV n a with
    | some c => some c
    | none => fromRV n b
  | _ => none
/-- A region of a function's code. -/
def regRV (n : Nat) : Code → Option Code
  | .region m l d => if m = n then some (.region m l d) else none
  | .seq a b => match regRV n a with
    | some c => some c
    | none => regRV n b
  | .block _ c => regRV n c
  | .loop c => regRV n c
  | .scope c => regRV n c
  | .cond _ a b => match regRV n a with
    | some c => some c
    | none => regRV n b
  | _ => none
/-- What lies in a block of a function's code. -/
def inBlkV (n : Nat) : Code → Option Code
  | .block m c => if m = n then some c else inBlkV n c
  | .loop c => inBlkV n c
  | .seq a b => match inBlkV n a with
    | some c => some c
    | none => inBlkV n b
  | .scope c => inBlkV n c
  | .cond _ a b => match inBlkV n a with
    | some c => some c
    | none => inBlkV n b
  | _ => none
theorem Rd.newB {w w' : World} {p : Nat} {s : ByteArray} {a e : Int} (h : Rd w p s a e) (hb : Below w.heap.size w w') : Rd w' p s a e :=
  h.kept (Fr.ofBelow hb (fun _ => False)) (fun h => h)
theorem Wr.newB {w w' : World} {base p : Nat} {v : Value} {l : List UInt8} (h : Wr w base p v l) (hb : Below w.heap.size w w') : Wr w' base p v l :=
  h.kept (Fr.ofBelow hb (fun _ => False)) (fun h => h) (fun _ _ h => h)
theorem vpair {w0 w1 w2 : World} (hb : Below w0.heap.size w0 w1) (hf : Fr w1 w2 (fun k => k = w0.heap.size ∨ (Value.slice none 0 0).ownBlock = some k)) : Below w0.heap.size w0 w2 :=
  hb.trans (hf.below hb.size (fun k hk => by rcases hk with rfl | hk; exact Nat.le_refl _; cases hk))
theorem textB_le (l : List UInt8) : l.length ≤ (textB l).length := by unfold textB; rw [List.length_append]; omega
theorem entsN_le : ∀ E : List Ent, entsN E ≤ (E.flatMap entB).length + 30 * E.length
  | [] => by simp [entsN]
  | e :: E => by
    have h := entsN_le E
    have h2 := textB_le e.s.data.toList
    have h3 : e.s.data.toList.length = e.s.size := by simp
    have h4 : (entB e).length = (numB e.v.toNat).length + (textB e.s.data.toList).length := by unfold entB; rw [List.length_append]
    rw [List.flatMap_cons, List.length_append, List.length_cons]
    have h5 : entsN (e :: E) = (e.s.size + 30) + entsN E := by simp [entsN]
    omega
/-- Entries that can be read, as Put wants them: the writer is new. -/
theorem vput_s {w w' : World} {eo : Option Addr} {ec n : Nat} {E : List Ent} (h : EnS w (.slice eo n ec) E) (hb : Below w.heap.size w w') : 0 < E.length → ∃ b off, eo = some ⟨b, off, none⟩ ∧ b ≠ w.heap.size ∧ (Value.slice none 0 0).ownBlock ≠ some b ∧ ∀ j (h : j < E.length), w'.cell? ⟨b, off + j * 2, none⟩ = some (.int .i64 E[j].v) ∧ w'.cell? ⟨b, off + j * 2 + 1, none⟩ = some (.string E[j].s) := fun h0 => by
  obtain ⟨ao, cap, e, -, h2⟩ := h.new hb
  obtain ⟨ao', cap', e', -, h2'⟩ := h
  cases e
  cases e'
  obtain ⟨b, off, e1, hc⟩ := h2 h0
  obtain ⟨b', off', e2, hc'⟩ := h2' h0
  cases e1
  cases e2
  exact ⟨b, off, rfl, fun e => by have := lt_cell (hc' 0 h0).1; omega, by simp [Value.ownBlock], hc⟩
theorem bel2 {a b c : World} (h : Below a.heap.size a b) (k : Below b.heap.size b c) : Below a.heap.size a c := h.trans (k.mono h.size)
theorem chk_nums {m : VM} {all : Int} (h : chkM m all = true) (ha : all ≤ 2147483647) : m.en.length ≤ 1000 ∧ ∀ x ∈ m.nums, 0 ≤ x ∧ x ≤ 2147483647 := by
  unfold chkM at h
  simp only [Bool.and_eq_true, decide_eq_true_eq, List.all_cons, List.all_nil, numI_iff] at h
  obtain ⟨h1, h2, h3, h4, h5, h6, h7, ⟨h8, h9, h10, h11, h12, h13, -⟩, h14, h15⟩ := h
  constructor
  · refine Nat.le_trans h15 ?_
    unfold mostK
    split <;> decide
  · intro x hx
    simp only [VM.nums, List.mem_cons, List.not_mem_nil, or_false] at hx
    rcases hx with rfl | rfl | rfl | rfl | rfl | rfl | rfl | rfl | rfl <;> omega
theorem vput_at {w w' : World} {B : Nat} {eo : Option Addr} {ec n : Nat} {E : List Ent} (h : EnO w B (.slice eo n ec) E) (hb : Below w.heap.size w w') : 0 < E.length → ∃ b off, eo = some ⟨b, off, none⟩ ∧ b ≠ w.heap.size ∧ (Value.slice none 0 0).ownBlock ≠ some b ∧ ∀ j (h : j < E.length), w'.cell? ⟨b, off + j * 2, none⟩ = some (.int .i64 E[j].v) ∧ w'.cell? ⟨b, off + j * 2 + 1, none⟩ = some (.string E[j].s) := vput_s h.toS hb
end Go.Proofs.Ytckjjajncgmddaa
