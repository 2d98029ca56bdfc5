import Derived.Test.YthkfbaoeimjgaaaGreatGrBytesM
import Derived.Test.YthkfbaoeimjgaaaGreatWriterWM
/- A writer carried through several calls. -/
namespace Go.Proofs.YthkfbaoeimjgaaaGreat
open Go.RowKit

/-- The writer's bytes are so many; nothing else has turned. -/
def WTo (w w' : World) (base p : Nat) (v : Value) (l' : List UInt8) : Prop := ∃ v', Wr w' base p v' l' ∧ Fr w w' (fun k => k = p ∨ v.ownBlock = some k) ∧ Row w v v'
theorem WTo.refl {w : World} {base p : Nat} {v : Value} {l : List UInt8} (h : Wr w base p v l) : WTo w w base p v l := ⟨v, h, Fr.refl _ _, Row.refl _ _⟩
theorem WTo.alloc {w w' : World} {base p : Nat} {v : Value} {l : List UInt8} (h : WTo w w' base p v l) (o : Obj) : WTo w (w'.alloc o) base p v l := by
  obtain ⟨v', hw, hf, hr⟩ := h
  exact ⟨v', hw.kept (Fr.alloc w' o (fun _ => False)) (fun h => h) (fun _ _ h => h), hf.trans (Fr.alloc w' o (fun _ => False)) (fun _ _ h => h.elim), hr⟩
theorem WTo.then {w w1 w2 : World} {base p : Nat} {v v1 : Value} {l' : List UInt8} (h1 : Fr w w1 (fun k => k = p ∨ v.ownBlock = some k)) (hr : Row w v v1) (h2 : WTo w1 w2 base p v1 l') : WTo w w2 base p v l' := by
  obtain ⟨v', hw, hf, hr'⟩ := h2
  exact ⟨v', hw, h1.frame2 hr hf, hr.trans hr' h1.size⟩
/-- A block that was there, and is neither the writer's nor its row's, stands. -/
theorem WTo.cell {w w' : World} {base p : Nat} {v : Value} {l : List UInt8} (h : WTo w w' base p v l) {b o : Nat} {u : Value} (hb : b ≠ p) (hv : v.ownBlock ≠ some b) (hc : w.cell? ⟨b, o, none⟩ = some u) : w'.cell? ⟨b, o, none⟩ = some u := by
  obtain ⟨v', _, hf, _⟩ := h
  exact fr_cell hf (by rintro (e | e); exact hb e; exact hv e) hc
theorem Wr.al {w : World} {base p : Nat} {v : Value} {l : List UInt8} (h : Wr w base p v l) (o : Obj) : Wr (w.alloc o) base p v l := h.kept (Fr.alloc w o (fun _ => False)) (fun h => h) (fun _ _ h => h)
theorem Wr.olt {w : World} {base p : Nat} {v : Value} {l : List UInt8} (h : Wr w base p v l) : ∀ k, v.ownBlock = some k → k < w.heap.size := fun k hk => (h.own.lt k hk).2
theorem wsigned_w {w0 w : World} {base p : Nat} {v : Value} {l : List UInt8} (k : Int) (h : WTo w0 w base p v l) (hk : I64 k) (hroom : l.length + 10 ≤ 140737488355328) :
    Calls Tryz.prog 52 #[.pointer (some ⟨p, 0, none⟩), .int .i64 k] w fun r w' => r = .returned (.tuple #[]) ∧ WTo w0 w' base p v (l ++ sgB k) := by
  obtain ⟨v1, hw, hf, hr⟩ := h
  exact (wsigned_any k hw hk.1 hk.2 hroom).mono fun r w' ⟨h1, h2⟩ => ⟨h1, WTo.then hf hr h2⟩
theorem wcount_w {w0 w : World} {base p : Nat} {v : Value} {l : List UInt8} (n : Nat) (h : WTo w0 w base p v l) (hn : n ≤ 9223372036854775807) (hroom : l.length + 10 ≤ 140737488355328) :
    Calls Tryz.prog 51 #[.pointer (some ⟨p, 0, none⟩), .int .i64 n] w fun r w' => r = .returned (.tuple #[]) ∧ WTo w0 w' base p v (l ++ numB n) := by
  obtain ⟨v1, hw, hf, hr⟩ := h
  have := wcount_any (n : Int) hw (by omega) hroom
  rw [Int.toNat_natCast] at this
  exact this.mono fun r w' ⟨h1, h2⟩ => ⟨h1, WTo.then hf hr h2⟩
theorem WTo.fromAlloc {w w' : World} {base p : Nat} {v : Value} {l : List UInt8} {o : Obj} (h : WTo (w.alloc o) w' base p v l) : WTo w w' base p v l := by
  obtain ⟨v', hw, hf, hr⟩ := h
  refine ⟨v', hw, (Fr.alloc w o (fun _ => False)).mono (fun _ _ h => h.elim) |>.trans hf (fun _ _ h => h), ?_⟩
  rcases hr with e | ⟨g, e, hg⟩
  · exact Or.inl e
  · exact Or.inr ⟨g, e, by simp at hg; omega⟩
end Go.Proofs.YthkfbaoeimjgaaaGreat
