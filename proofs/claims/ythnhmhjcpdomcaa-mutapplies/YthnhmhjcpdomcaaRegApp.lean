/- Appends onto a row of one's own as operations of a region that draws; rows that are read. -/
import Derived.Test.YthnhmhjcpdomcaaRegI
import Derived.Test.YthnhmhjcpdomcaaMuThat
import Derived.Maps.AppendAt
namespace Go.Proofs.Ythnhmhjcpdomcaa
open Go.RowKit Go.Sort
theorem run_append_noneG {P : Program} (w : World) (t ty e : TypeId) (i : TypeInfo) (ht : P.underlying t = some (.slice e)) (hi : P.info? e = some i) (base bo : Option Addr) (n c c2 : Nat) (hle : n ≤ c) :
    (Builtin.append_ #[t, t] ty #[.slice base n c, .slice bo 0 c2]).run P w = .ok (.slice base n c) w := by
  cases base <;> cases bo <;> simp [Builtin.append_, run_underlying ht, sizeOf, typeInfo, hi, hle, storeCells, loadCells, loadCellsFrom, Builtin.lenOf, Builtin.firstCells]
/-- Cells that can be read from an address on, if there are any. -/
def SrcF (w : World) (bo : Option Addr) (m : Nat) (news : List Value) : Prop := 0 < m → ∃ b off, bo = some ⟨b, off, none⟩ ∧ ∀ j u, news[j]? = some u → w.cell? ⟨b, off + j, none⟩ = some u
theorem SrcF.new {w w' : World} {bo : Option Addr} {m : Nat} {news : List Value} (h : SrcF w bo m news) (hb : Below w.heap.size w w') : SrcF w' bo m news := by
  intro hm
  obtain ⟨b, off, e, hc⟩ := h hm
  exact ⟨b, off, e, fun j u hu => fr_cell (Fr.ofBelow hb (fun _ => False)) (fun h => h) (hc j u hu)⟩
theorem op_appendG {o : Oper} {a : Act} {w : World} {K : Act → World → Prop} {Q : Exit → Act → World → Prop} {s x : Operand} {t e : TypeId} {i : TypeInfo} {z : Value} {size bytes : Nat} (ht : Try.prog.underlying t = some (.slice e)) (hi : Try.prog.info? e = some i) (hz : i.zero = some z) (hsize : i.size = size) (hby : i.bytes = bytes) (hzs : z.cells.size = size) (hsz : 0 < size) (hby2 : bytes ≤ 64)
    (hop : o.op = .call { callee := .builtin .append, args := #[s, x], argTypes := #[t, t] })
    (base : Nat) (v : Value) (n : Nat) (xs : List Value) (hs : a.eval s = v) (hown : w.ownsRow base e size v n xs) {bo : Option Addr} {m c : Nat} (hx : a.eval x = .slice bo m c) (news : List Value) (hl : news.length = m * size) (hE : SrcF w bo m news) (h1 : ∀ u ∈ news, u.oneCell' = true) (h63 : n + m ≤ 2000000000) (hbase : base ≤ w.heap.size)
    (h : ∀ v' w', w'.ownsRow base e size v' (n + m) (xs ++ news) → w.grownBy w' v.ownBlock → (v'.ownBlock = v.ownBlock ∨ v'.ownBlock = some w.heap.size) → K (a.put o.dst v') w') : o.wp Try.prog a w K Q := by
  by_cases hm : 0 < m
  · obtain ⟨b, off, rfl, hc⟩ := hE hm
    obtain ⟨v', w', hr, h2, h3, _, h5⟩ := run_append_own_at (P := Try.prog) w base t o.type e i z size bytes ht hi hz hsize hby hzs hsz v n xs hown ⟨b, off, none⟩ m c news hl (fun j u hu => by rw [Addr.add_lit]; exact hc j u hu) h1 (by unfold maxLen; omega) (Nat.le_trans (Nat.mul_le_mul h63 hby2) (by decide)) hbase
    unfold Oper.wp execOp
    simp only [hop, resolve, invoke, builtin, Sem.run_bind, Sem.run_pure, Result.andThen_ok, List.map_toArray, List.map_cons, List.map_nil, hs, hx, hr]
    exact h v' w' h2 h3 h5
  · obtain rfl : m = 0 := by omega
    have e0 : news = [] := List.length_eq_zero_iff.1 (by omega)
    subst e0
    have hle : ∃ so n cc, v = .slice so n cc ∧ n ≤ cc := by
      rcases hown.2 with ⟨h1, _⟩ | ⟨g, cap, cur, h1, _, _, hn, _⟩
      · exact ⟨_, _, _, h1, Nat.le_refl _⟩
      · exact ⟨_, _, _, h1, hn⟩
    obtain ⟨so, n', cc, rfl, hle⟩ := hle
    have hr := run_append_noneG (P := Try.prog) w t o.type e i ht hi so bo n' cc c hle
    unfold Oper.wp execOp
    simp only [hop, resolve, invoke, builtin, Sem.run_bind, Sem.run_pure, Result.andThen_ok, List.map_toArray, List.map_cons, List.map_nil, hs, hx, hr]
    refine h _ _ ?_ (World.grownBy.refl _ _) (.inl rfl)
    rw [List.append_nil, Nat.add_zero]
    exact hown
/-- Where a slice from an index on begins. -/
def subA (size : Nat) (go : Option Addr) (gc at_ : Nat) : Option Addr := if gc = at_ then go else go.map fun a => ⟨a.block, a.off + at_ * size, none⟩
theorem subA_some (size gb gc at_ : Nat) : subA size (some ⟨gb, 0, none⟩) gc at_ = if gc = at_ then some ⟨gb, 0, none⟩ else some ⟨gb, at_ * size, none⟩ := by unfold subA; split <;> simp
theorem subA_none (size : Nat) : subA size none 0 0 = none := rfl
theorem own_shapeG {w : World} {base : Nat} {e : TypeId} {size : Nat} {go : Option Addr} {n gn gc : Nat} {xs : List Value} (h : w.ownsRow base e size (.slice go gn gc) n xs) : gn = n ∧ n ≤ gc ∧ ((go = none ∧ n = 0 ∧ gc = 0) ∨ ∃ gb, go = some ⟨gb, 0, none⟩) := by
  rcases h.2 with ⟨h1, h2⟩ | ⟨g, cap, cur, h1, hb, hg, hn, hc, hcs, ht⟩
  · cases h1
    exact ⟨h2.symm, by omega, .inl ⟨rfl, h2, rfl⟩⟩
  · cases h1
    exact ⟨rfl, hn, .inr ⟨g, rfl⟩⟩
theorem src_take {w : World} {base : Nat} {e : TypeId} {size : Nat} {go : Option Addr} {n gc : Nat} {xs : List Value} (h : w.ownsRow base e size (.slice go n gc) n xs) (at_ : Nat) (hat : at_ ≤ n) : SrcF w go at_ (xs.take (at_ * size)) := by
  intro hl
  rcases (own_shapeG h).2.2 with ⟨_, h2, _⟩ | ⟨gb, rfl⟩
  · omega
  · refine ⟨gb, 0, rfl, fun j u hu => ?_⟩
    have := World.ownsRow.cells h (g := gb) rfl j u (by rw [List.getElem?_take] at hu; split at hu; exact hu; cases hu)
    rwa [Addr.add_lit] at this
theorem src_drop {w : World} {base : Nat} {e : TypeId} {size : Nat} {go : Option Addr} {n gc : Nat} {xs : List Value} (h : w.ownsRow base e size (.slice go n gc) n xs) (at_ : Nat) : SrcF w (subA size go gc at_) (n - at_) (xs.drop (at_ * size)) := by
  intro hl
  rcases (own_shapeG h).2 with ⟨h1, ⟨_, h2, _⟩ | ⟨gb, rfl⟩⟩
  · omega
  · refine ⟨gb, at_ * size, by rw [subA_some, if_neg (by omega)], fun j u hu => ?_⟩
    rw [List.getElem?_drop] at hu
    have := World.ownsRow.cells h (g := gb) rfl _ u hu
    rwa [Addr.add_lit, Nat.zero_add] at this
theorem src_one {w : World} {h : Nat} {cs : Array Value} {t : TypeId} {f : Nat × Nat} (hb : w.heap[h]? = some (.cells cs t f)) : SrcF w (some ⟨h, 0, none⟩) 1 cs.toList := by
  intro _
  refine ⟨h, 0, rfl, fun j u hu => ?_⟩
  simp only [World.cell?, hb]
  simpa using hu
theorem own_emptyG {w : World} {base : Nat} {t : TypeId} {size : Nat} (hb : base ≤ w.heap.size) : (w.alloc (.cells #[] t)).ownsRow base t size (.slice (some ⟨w.heap.size, 0, none⟩) 0 0) 0 [] := World.ownsRow_made w #[] 0 hb (by decide) (by simp)
end Go.Proofs.Ythnhmhjcpdomcaa
