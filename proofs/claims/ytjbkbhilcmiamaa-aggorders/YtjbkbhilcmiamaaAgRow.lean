/- A row of values for kinds, of the call's own. -/
import Derived.Test.YtjbkbhilcmiamaaAgAwake
import Derived.Test.YtjbkbhilcmiamaaAgXY
import Derived.Deep.RegionLaw
import Derived.BigRegion
namespace Go.Proofs.Ytjbkbhilcmiamaa
open Go.RowKit
theorem g_step_append_own {P : Program} {ops : Array Oper} {o : Oper} {a : Act} {w : World} {K : Act → World → Prop} {Q : Exit → Act → World → Prop} {E : Prop}
    (hg : o.guard = none) (s x : Operand) (t : TypeId) (hop : o.op = .call { callee := .builtin .append, args := #[s, x], argTypes := #[t, t] })
    (base : Nat) (e : TypeId) (i : TypeInfo) (z : Value) (size bytes : Nat) (ht : P.underlying t = some (.slice e)) (hi : P.info? e = some i) (hz : i.zero = some z)
    (hsize : i.size = size) (hby : i.bytes = bytes) (hzs : z.cells.size = size) (hsz : 0 < size)
    (v : Value) (n : Nat) (xs : List Value) (hs : a.eval s = v) (hown : w.ownsRow base e size v n xs)
    (ad : Addr) (m c : Nat) (news : List Value) (hx : a.eval x = .slice (some ad) m c) (hl : news.length = m * size) (hnews : ∀ j u, news[j]? = some u → w.cell? (ad.add j) = some u) (h1 : ∀ u ∈ news, u.oneCell' = true)
    (h63 : n + m ≤ maxLen) (hbytes : (n + m) * bytes ≤ 140737488355328) (hbase : base ≤ w.heap.size)
    (h : ∀ v' w', w'.ownsRow base e size v' (n + m) (xs ++ news) → w.grownBy w' v.ownBlock → (v'.ownBlock = v.ownBlock ∨ v'.ownBlock = some w.heap.size) → K (a.put o.dst v') w') :
    if Region.wanted o (yielded ops a.tmps) = true then Oper.wp P o a w K Q else E := by
  have hw : Region.wanted o (yielded ops a.tmps) = true := by simp [Region.wanted, hg]
  rw [if_pos hw]
  obtain ⟨v', w', hr, h2, h3, _, h5⟩ := run_append_own_at (P := P) w base t o.type e i z size bytes ht hi hz hsize hby hzs hsz v n xs hown ad m c news hl hnews h1 h63 hbytes hbase
  unfold Oper.wp execOp
  simp only [hop, resolve, invoke, builtin, Sem.run_bind, Sem.run_pure, Result.andThen_ok, List.map_toArray, List.map_cons, List.map_nil, hs, hx, hr]
  exact h v' w' h2 h3 h5
theorem g_own_new {w w' : World} {base : Nat} {e : TypeId} {size : Nat} {v : Value} {n : Nat} {xs : List Value} (h : w.ownsRow base e size v n xs) (hb : Below w.heap.size w w') : w'.ownsRow base e size v n xs := by
  refine ⟨h.1, ?_⟩
  rcases h.2 with hn | ⟨g, cap, cur, rfl, hbs, hgg, rest⟩
  · exact Or.inl hn
  · exact Or.inr ⟨g, cap, cur, rfl, hbs, (hb.block g (lt_of_block hgg)).trans hgg, rest⟩
theorem g_own_empty {w : World} {base : Nat} {t : TypeId} {size : Nat} (hb : base ≤ w.heap.size) : (w.alloc (.cells #[] t)).ownsRow base t size (.slice (some ⟨w.heap.size, 0, none⟩) 0 0) 0 [] := World.ownsRow_made w #[] 0 hb (by decide) (by simp)
def g_ecs (L : List Ed) : List Value := L.flatMap fun e => [.int .i64 e.t, .int .i64 e.w]
theorem g_ecs_snoc (L : List Ed) (e : Ed) : g_ecs (L ++ [e]) = g_ecs L ++ [.int .i64 e.t, .int .i64 e.w] := by simp [g_ecs]
theorem g_ecs_at : ∀ (L : List Ed) (j : Nat) (h : j < L.length), (g_ecs L)[j * 2]? = some (.int .i64 L[j].t) ∧ (g_ecs L)[j * 2 + 1]? = some (.int .i64 L[j].w)
  | [], j, h => absurd h (by simp)
  | e :: L, 0, _ => ⟨rfl, rfl⟩
  | e :: L, j + 1, h => by
    have := g_ecs_at L j (by simpa using h)
    rw [show (j + 1) * 2 = j * 2 + 1 + 1 by omega]
    exact this
theorem g_own_eds {w : World} {base : Nat} {t : TypeId} {ao : Option Addr} {n c : Nat} {L : List Ed} (h : w.ownsRow base t 2 (.slice ao n c) L.length (g_ecs L)) : n = L.length ∧ EdAt w (fun k => base ≤ k ∧ (Value.slice ao n c).ownBlock = some k) ao L := by
  rcases h.2 with ⟨h1, h2⟩ | ⟨g, cap, cur, h1, hb, hg, hn, hc, hcs, ht⟩
  · cases h1
    exact ⟨h2.symm, fun hl => by omega⟩
  · cases h1
    refine ⟨rfl, fun hl => ⟨g, 0, rfl, ⟨hb, rfl⟩, fun j hj => ?_⟩⟩
    have hcell : ∀ i (u : Value), (g_ecs L)[i]? = some u → w.cell? ⟨g, i, none⟩ = some u := fun i u hu => by
      have := h.cells (g := g) rfl i u hu
      have hadd : (⟨g, 0, none⟩ : Addr).add i = ⟨g, i, none⟩ := by unfold Addr.add; split <;> simp_all
      rw [hadd] at this
      exact this
    have := g_ecs_at L j hj
    rw [Nat.zero_add]
    exact ⟨hcell _ _ this.1, hcell _ _ this.2⟩
theorem g_two_new {W : World} {b : Nat} {t : TypeId} {x y : Value} (h : W.heap[b]? = some (.cells #[x, y] t (0, 0))) : ∀ (j : Nat) (u : Value), [x, y][j]? = some u → W.cell? ((⟨b, 0, none⟩ : Addr).add j) = some u := by
  intro j u hu
  have hadd : (⟨b, 0, none⟩ : Addr).add j = ⟨b, j, none⟩ := by unfold Addr.add; split <;> simp_all
  rw [hadd]
  simp [World.cell?, h]
  simpa using hu
theorem g_own_shape {w : World} {base : Nat} {e : TypeId} {size : Nat} {v : Value} {n : Nat} {xs : List Value} (h : w.ownsRow base e size v n xs) : ∃ ao c, v = .slice ao n c := by
  rcases h.2 with ⟨rfl, rfl⟩ | ⟨g, cap, cur, rfl, _⟩
  · exact ⟨_, _, rfl⟩
  · exact ⟨_, _, rfl⟩
theorem g_own_any {w : World} {base : Nat} {e : TypeId} {size : Nat} {v : Value} {n : Nat} {xs : List Value} (h : w.ownsRow base e size v n xs) : ∃ ao m c, v = .slice ao m c := by
  obtain ⟨ao, c, rfl⟩ := g_own_shape h
  exact ⟨_, _, _, rfl⟩
theorem infoGv : (Try.prog.info? 31).map (fun i => (i.zero, i.size, i.bytes)) = some (some (.agg #[.int .i64 0, .int .i64 0]), 2, 16) := by kernel_rfl
/-- The values made small. -/
def smallE (y : Ed) : Ed := ⟨y.t, y.w.tmod 1000000⟩
def smallL (L : List Ed) : List Ed := L.map smallE
theorem smallL_snoc (L : List Ed) (k : Nat) (h : k < L.length) : smallL (L.take (k + 1)) = smallL (L.take k) ++ [smallE L[k]] := by
  unfold smallL
  rw [List.take_succ_eq_append_getElem h, List.map_append]; rfl
theorem smallL_len (L : List Ed) : (smallL L).length = L.length := by simp [smallL]
theorem grown_low {w wr w1 : World} {x : Obj} {ob : Option Nat} (hb : Below w.heap.size w wr) (h : (wr.drew.alloc x).grownBy w1 ob) (hk : ∀ k, ob = some k → w.heap.size ≤ k) : Below w.heap.size w w1 := by
  have h1 : Below w.heap.size w (wr.drew.alloc x) := hb.drew.trans ((one_new' wr.drew x).mono hb.size)
  exact h1.trans ((Fr.grown (S := fun k => ob = some k) h (fun k hk => hk)).below h1.size hk)
theorem own_some {w : World} {base : Nat} {t : TypeId} {v : Value} {n : Nat} {xs : List Value} (h : w.ownsRow base t 2 v (n + 1) xs) : ∃ g cp, v = .slice (some ⟨g, 0, none⟩) (n + 1) cp ∧ n + 1 ≤ cp ∧ cp ≤ maxLen := by
  rcases h.2 with ⟨_, h2⟩ | ⟨g, cap, cur, h1, hb, hg, hn, hc, hcs, ht⟩
  · omega
  · exact ⟨g, cap, h1, hn, hc⟩
/-- The document's aggregate of a slice whose length is told. -/
theorem all_len {P : Nat → Prop} (ao : Option Addr) (cap n : Nat) (L : List Ed) (w : World) (hn : L.length = n) (hE : EdAt w P ao L) (hok : ∀ y ∈ L, y.ok) (hl : L.length ≤ 35184372088832) :
    Calls Try.prog 13 #[.slice ao n cap] w fun e w' => e = .returned (AO (allO L)) ∧ Below w.heap.size w w' := by
  subst hn
  exact all_any ao cap L w hE hok hl
theorem ed_take {w : World} {P : Nat → Prop} {ao : Option Addr} {D : List Ed} (k : Nat) (h : EdAt w P ao D) : EdAt w P ao (D.take k) := by
  intro hl
  have hl' : 0 < D.length := by rw [List.length_take] at hl; omega
  obtain ⟨b, off, e, hb, hc⟩ := h hl'
  refine ⟨b, off, e, hb, fun j hj => ?_⟩
  have hj' : j < D.length := by rw [List.length_take] at hj; omega
  rw [List.getElem_take]
  exact hc j hj'
theorem ed_drop {w : World} {P : Nat → Prop} {b : Nat} {D : List Ed} (k : Nat) (h : EdAt w P (some ⟨b, 0, none⟩) D) : EdAt w P (some ⟨b, k * 2, none⟩) (D.drop k) := by
  intro hl
  have hl' : k < D.length := by rw [List.length_drop] at hl; omega
  obtain ⟨b', off, e, hb, hc⟩ := h (by omega)
  cases e
  refine ⟨b, k * 2, rfl, hb, fun j hj => ?_⟩
  have hj' : k + j < D.length := by rw [List.length_drop] at hj; omega
  rw [List.getElem_drop]
  have := hc (k + j) hj'
  rw [show 0 + (k + j) * 2 = k * 2 + j * 2 by omega] at this
  exact this
theorem small_ok (L : List Ed) (h : ∀ y ∈ L, y.ok) : ∀ y ∈ smallL L, y.ok ∧ -1000000 < y.w ∧ y.w < 1000000 := by
  intro y hy
  obtain ⟨x, hx, rfl⟩ := List.mem_map.1 hy
  have h1 : -1000000 < x.w.tmod 1000000 ∧ x.w.tmod 1000000 < 1000000 := by
    have a := Int.tmod_lt_of_pos x.w (b := 1000000) (by decide)
    have b := Int.tmod_lt_of_pos (-x.w) (b := 1000000) (by decide)
    rw [Int.neg_tmod] at b
    omega
  exact ⟨⟨(h x hx).t, by show -9223372036854775808 ≤ x.w.tmod 1000000 ∧ x.w.tmod 1000000 ≤ 9223372036854775807; omega⟩, h1.1, h1.2⟩
end Go.Proofs.Ytjbkbhilcmiamaa
