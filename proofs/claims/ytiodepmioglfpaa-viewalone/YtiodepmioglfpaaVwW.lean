/- Rows of one cell an element (masters, numbers): appends; the statement's world of masters in memory. -/
import Derived.Test.YtiodepmioglfpaaVwCp
import Derived.Test.YtiodepmioglfpaaVwAl
namespace Go.Proofs.Ytiodepmioglfpaa
open Go.RowKit Go.Maps
attribute [local go_sem] Oper.semAt_some
/-- A row of one's own whose elements are one cell each. -/
def RO (w : World) (t : TypeId) (v : Value) (xs : List Value) : Prop := w.ownsRow 0 t 1 v xs.length xs
theorem RO.nil (w : World) (t : TypeId) : RO w t (.slice none 0 0) [] := World.ownsRow_nil _ _ _ _
theorem RO.kept {w w' : World} {t : TypeId} {v : Value} {xs : List Value} (h : RO w t v xs) {S : Nat → Prop} (f : Fr w w' S) (hS : ∀ k, v.ownBlock = some k → ¬ S k) : RO w' t v xs := vrow_keep h f hS
theorem RO.new {w w' : World} {t : TypeId} {v : Value} {xs : List Value} (h : RO w t v xs) (hb : Below w.heap.size w w') : RO w' t v xs := h.kept (Fr.ofBelow hb (fun _ => False)) (fun _ _ h => h)
theorem RO.lt {w : World} {t : TypeId} {v : Value} {xs : List Value} (h : RO w t v xs) {k : Nat} (hk : v.ownBlock = some k) : k < w.heap.size := by obtain ⟨_, c, f, hb⟩ := vrow_tag h hk; exact vlt_blk hb
theorem RO.shape {w : World} {t : TypeId} {v : Value} {xs : List Value} (h : RO w t v xs) : ∃ ao c, v = .slice ao xs.length c ∧ xs.length ≤ c ∧ (0 < xs.length → ∃ g, ao = some ⟨g, 0, none⟩) := by
  rcases h.2 with ⟨h1, h2⟩ | ⟨g, cap, cur, rfl, _, _, h3, _⟩
  · exact ⟨none, 0, by rw [h1, h2], by omega, fun e => by omega⟩
  · exact ⟨_, _, rfl, h3, fun _ => ⟨g, rfl⟩⟩
theorem RO.at_ {w : World} {t : TypeId} {g n cap : Nat} {xs : List Value} (h : RO w t (.slice (some ⟨g, 0, none⟩) n cap) xs) (j : Nat) (hj : j < xs.length) : w.cell? ⟨g, j, none⟩ = some xs[j] := by
  have h0 := World.ownsRow.cells h (g := g) (by obtain ⟨ao, c, e, _⟩ := h.shape; cases e; rfl) j xs[j] (List.getElem?_eq_getElem hj)
  rw [Addr.add_lit] at h0
  simpa using h0
theorem run_append_noneW {P : Program} (w : World) (t ty e : TypeId) (i : TypeInfo) (ht : P.underlying t = some (.slice e)) (hi : P.info? e = some i) (base bo : Option Addr) (n c c2 : Nat) (hle : n ≤ c) :
    (Builtin.append_ #[t, t] ty #[.slice base n c, .slice bo 0 c2]).run P w = .ok (.slice base n c) w := run_append_noneV w t ty e i ht hi base bo n c c2 hle
theorem infoP : ∃ i, Try.prog.info? 51 = some i ∧ i.zero = some (.pointer none) ∧ i.size = 1 ∧ i.bytes = 8 := by
  cases h : Try.prog.info? 51 with
  | none =>
    have : (Try.prog.info? 51).isSome = true := by kernel_rfl
    rw [h] at this
    cases this
  | some i =>
    have h1 : (Try.prog.info? 51).map (·.zero) = some (some (.pointer none)) := by kernel_rfl
    have h2 : (Try.prog.info? 51).map (·.size) = some 1 := by kernel_rfl
    have h3 : (Try.prog.info? 51).map (·.bytes) = some 8 := by kernel_rfl
    rw [h] at h1 h2 h3
    exact ⟨i, rfl, by simpa using h1, by simpa using h2, by simpa using h3⟩
/-- One element put behind a row of one's own. -/
theorem run_app1 {w : World} {st t : TypeId} {i : TypeInfo} {z : Value} (ht : Try.prog.underlying st = some (.slice t)) (hi : Try.prog.info? t = some i) (hz : i.zero = some z) (hsize : i.size = 1) (hby : i.bytes = 8) (hzs : z.cells.size = 1) {v : Value} {xs : List Value} (hv : RO w t v xs) {b : Nat} {x : Value} (hx : w.heap[b]? = some (.cells #[x] t (0, 0))) (h1 : x.oneCell' = true) (hl : xs.length ≤ 1000) (ty : TypeId) : ∃ v' w', (Builtin.append_ #[st, st] ty #[v, .slice (some ⟨b, 0, none⟩) 1 1]).run Try.prog w = .ok v' w' ∧ RO w' t v' (xs ++ [x]) ∧ Fr w w' (fun k => v.ownBlock = some k) ∧ (∀ k, v'.ownBlock = some k → v.ownBlock = some k ∨ w.heap.size ≤ k) := by
  have hsrc : ∀ j u, [x][j]? = some u → w.cell? ((⟨b, 0, none⟩ : Addr).add j) = some u := fun j u hu => by
    rw [Addr.add_lit]
    match j, hu with
    | 0, hu => simpa [World.cell?, hx] using hu
  obtain ⟨v', w', hr, h2, h3, _, h5⟩ := run_append_own_at (P := Try.prog) w 0 st ty t i z 1 8 ht hi hz hsize hby hzs (by decide) v xs.length xs hv ⟨b, 0, none⟩ 1 1 [x] rfl hsrc (by intro u hu; rw [List.mem_singleton.1 hu]; exact h1) (by unfold maxLen; omega) (by omega) (Nat.zero_le _)
  refine ⟨v', w', hr, ?_, Fr.grown h3 (fun k e => e), fun k hk => ?_⟩
  · unfold RO
    rw [List.length_append]
    exact h2
  · rcases h5 with h5 | h5
    · exact .inl (h5.symm.trans hk)
    · rw [h5] at hk; cases hk; exact .inr (Nat.le_refl _)
theorem app_ptr {w : World} {v : Value} {xs : List Value} (hv : RO w 51 v xs) {b : Nat} {x : Value} (hx : w.heap[b]? = some (.cells #[x] 51 (0, 0))) (h1 : x.oneCell' = true) (hl : xs.length ≤ 1000) (ty : TypeId) : ∃ v' w', (Builtin.append_ #[67, 67] ty #[v, .slice (some ⟨b, 0, none⟩) 1 1]).run Try.prog w = .ok v' w' ∧ RO w' 51 v' (xs ++ [x]) ∧ Fr w w' (fun k => v.ownBlock = some k) ∧ (∀ k, v'.ownBlock = some k → v.ownBlock = some k ∨ w.heap.size ≤ k) := by
  obtain ⟨i, hi, hz, hs, hb⟩ := infoP
  exact run_app1 Try.underlying67 hi hz hs hb rfl hv hx h1 hl ty
theorem app_int {w : World} {v : Value} {xs : List Value} (hv : RO w 3 v xs) {b : Nat} {x : Value} (hx : w.heap[b]? = some (.cells #[x] 3 (0, 0))) (h1 : x.oneCell' = true) (hl : xs.length ≤ 1000) (ty : TypeId) : ∃ v' w', (Builtin.append_ #[26, 26] ty #[v, .slice (some ⟨b, 0, none⟩) 1 1]).run Try.prog w = .ok v' w' ∧ RO w' 3 v' (xs ++ [x]) ∧ Fr w w' (fun k => v.ownBlock = some k) ∧ (∀ k, v'.ownBlock = some k → v.ownBlock = some k ∨ w.heap.size ≤ k) := by
  obtain ⟨i, hi, hz, hs, hb⟩ := infoVI
  exact run_app1 Try.underlying26 hi hz hs hb rfl hv hx h1 hl ty
theorem stp_run {ops : Array Oper} {o : Oper} {a : Act} {w : World} {K : Act → World → Prop} {Q : Exit → Act → World → Prop} {E : Prop} (hgd : o.guard = none) {s x : Operand} {st : TypeId} (hop : o.op = .call { callee := .builtin .append, args := #[s, x], argTypes := #[st, st] })
    {v xv v' : Value} {w' : World} (hs : a.eval s = v) (hx : a.eval x = xv) (hr : (Builtin.append_ #[st, st] o.type #[v, xv]).run Try.prog w = .ok v' w') (h : K (a.put o.dst v') w') : if Region.wanted o (yielded ops a.tmps) = true then Oper.wp Try.prog o a w K Q else E := by
  have hw : Region.wanted o (yielded ops a.tmps) = true := by simp [Region.wanted, hgd]
  rw [if_pos hw]
  unfold Oper.wp execOp
  simp only [hop, resolve, invoke, builtin, Sem.run_bind, Sem.run_pure, Result.andThen_ok, List.map_toArray, List.map_cons, List.map_nil, hs, hx, hr]
  exact h
end Go.Proofs.Ytiodepmioglfpaa
