import Derived.Test.YthnhmhjcpdomcaaMuDelM
import Derived.Test.YthnhmhjcpdomcaaGrRefKM
import Derived.Test.YthnhmhjcpdomcaaMuOneEM
import Derived.Test.YthnhmhjcpdomcaaMuAp8M
import Derived.Test.YthnhmhjcpdomcaaMuComp
section
/- Graphs that may be: vertices and edges rise, and how many there are. -/
namespace Go.Proofs.Ythnhmhjcpdomcaa
open Go.RowKit
theorem fold_sum : ∀ (G : List Vx) (a : Int) (B : Nat), 0 ≤ a → (∀ v ∈ G, v.es.length ≤ B) → a + G.length * B ≤ 4611686018427387904 → G.foldl (fun a v => wrap64 (a + v.es.length)) a = a + ((G.map fun v => v.es.length).sum : Nat) ∧ ∀ v ∈ G, (v.es.length : Int) ≤ ((G.map fun v => v.es.length).sum : Nat)
  | [], a, B, _, _, _ => ⟨by simp, fun v hv => (by cases hv)⟩
  | v :: G, a, B, h0, hB, hs => by
    have hv := hB v (by simp)
    have e : (((v :: G).length : Nat) : Int) * B = (G.length : Int) * B + B := by rw [List.length_cons]; push_cast; rw [Int.add_mul, Int.one_mul]
    rw [e] at hs
    have hp : (0 : Int) ≤ (G.length : Int) * B := Int.mul_nonneg (by omega) (by omega)
    have hw : wrap64 (a + v.es.length) = a + v.es.length := by
      have h2 : a + (v.es.length : Int) ≤ 4611686018427387904 := by omega
      unfold wrap64
      omega
    have ih := fold_sum G (a + v.es.length) B (by omega) (fun y hy => hB y (by simp [hy])) (by omega)
    rw [List.foldl_cons, hw, ih.1, List.map_cons, List.sum_cons]
    refine ⟨by push_cast; omega, fun y hy => ?_⟩
    rcases List.mem_cons.1 hy with rfl | hy
    · push_cast; omega
    · have := ih.2 y hy; push_cast; omega
theorem up_of {G : List Vx} (h : chk G = 0) (hok : ∀ v ∈ G, v.ok) : Up 2048 G := by
  have hl : G.length ≤ 256 := by
    unfold chk at h
    split at h
    · cases h
    · rename_i hn; omega
  have hs : sumE G ≤ 2048 := by
    unfold chk at h
    split at h
    · cases h
    · split at h
      · cases h
      · rename_i hn; omega
  have := fold_sum G 0 8796093022208 (Int.le_refl _) (fun v hv => (hok v hv).len) (by omega)
  have e : sumE G = ((G.map fun v => v.es.length).sum : Nat) := by unfold sumE; rw [this.1]; simp
  refine ⟨by omega, fun v hv => ?_⟩
  have := this.2 v hv
  omega
theorem fine_of {G : List Vx} (h : chk G = 0) : Fine G := by
  unfold chk at h
  split at h
  · cases h
  · rename_i hn
    split at h
    · cases h
    · rename_i hn2
      refine ⟨rise_pw.1 ((riseB_iff _).1 ?_), fun v hv => rise_pw.1 ((riseB_iff _).1 ?_)⟩
      · cases hb : riseB (ids G) with
        | true => rfl
        | false => exact absurd (Or.inr hb) hn
      · cases hb : risesE G with
        | true => exact List.all_eq_true.1 hb v hv
        | false => exact absurd (Or.inr (Or.inl hb)) hn2
/-- Numbers of 64 bits stay such. -/
theorem doV_okk {v : Vx} {m : Mu} (h : v.ok) (hm : m.ok) (hl : v.es.length < 8796093022208) : ∀ y ∈ (doV v m).1, y.ok := by
  intro y hy
  unfold doV at hy
  split at hy
  · cases hy
  · split at hy
    · split at hy
      · rw [List.mem_singleton] at hy
        subst hy
        refine ⟨h.id, h.val, fun e he => ?_, by simp only [List.length_append, List.length_take, List.length_drop]; omega⟩
        rcases List.mem_append.1 he with he | he
        · exact h.es e (List.mem_of_mem_take he)
        · exact h.es e (List.mem_of_mem_drop he)
      · rw [List.mem_singleton] at hy; subst hy; exact h
    · split at hy
      · split at hy
        · rw [List.mem_singleton] at hy; subst hy; exact h
        · rw [List.mem_singleton] at hy
          subst hy
          refine ⟨h.id, h.val, fun e he => ?_, by simp only [List.length_append, List.length_take, List.length_cons, List.length_drop]; omega⟩
          rcases List.mem_append.1 he with he | he
          · exact h.es e (List.mem_of_mem_take he)
          · rcases List.mem_cons.1 he with rfl | he
            · exact ⟨hm.t, hm.v⟩
            · exact h.es e (List.mem_of_mem_drop he)
      · rw [List.mem_singleton] at hy; subst hy; exact h
theorem doG_okk {G : List Vx} {m : Mu} (hf : Fine G) (h : ∀ v ∈ G, v.ok) (hm : m.ok) (hl : ∀ v ∈ G, v.es.length < 8796093022208) : ∀ y ∈ (doG G m).1, y.ok := by
  intro y hy
  rcases doG_form hf m with ⟨A, v, B, h1, h2, h3, h4, e⟩ | ⟨A, B, h1, h3, h4, e⟩
  · rw [e] at hy
    rw [h1] at h hl
    rcases List.mem_append.1 hy with hy | hy
    · exact h y (by simp [hy])
    · rcases List.mem_append.1 hy with hy | hy
      · exact doV_okk (h v (by simp)) hm (hl v (by simp)) y hy
      · exact h y (by simp [hy])
  · rw [e] at hy
    rw [h1] at h
    rcases List.mem_append.1 hy with hy | hy
    · exact h y (by simp [hy])
    · rcases List.mem_append.1 hy with hy | hy
      · unfold noV at hy
        split at hy
        · rw [List.mem_singleton] at hy
          subst hy
          exact ⟨hm.i, hm.v, fun e he => (by cases he), by simp⟩
        · cases hy
      · exact h y (by simp [hy])
theorem runU_okk {s : List Vx × Nat} {n : Nat} (hf : Fine s.1) (hu : Up n s.1) (h : ∀ v ∈ s.1, v.ok) : ∀ (l : List Mu), (∀ m ∈ l, m.ok) → n + l.length < 8796093022208 → ∀ y ∈ (runU s l).1, y.ok := by
  intro l
  induction l generalizing s n with
  | nil => exact fun _ _ => h
  | cons m l ih =>
    intro hm hl
    rw [List.length_cons] at hl
    exact ih (s := stepU s m) (doG_fine hf m) (doG_up hf m hu) (doG_okk hf h (hm m (by simp)) (fun v hv => by have := hu.2 v hv; omega)) (fun x hx => hm x (by simp [hx])) (by omega)
theorem appG_okk {G : List Vx} {l : List Mu} {n : Nat} (hf : Fine G) (hu : Up n G) (h : ∀ v ∈ G, v.ok) (hm : ∀ m ∈ l, m.ok) (hl : n + l.length < 8796093022208) : ∀ y ∈ (appG G l).1, y.ok :=
  runU_okk (s := (G, 0)) hf hu h (thatC l) (fun m hx => hm m (thatC_mem hx)) (by have := thatC_len l; omega)
end Go.Proofs.Ythnhmhjcpdomcaa
end

section
/- The document's Before, and lists that are turned. -/
namespace Go.Proofs.Ythnhmhjcpdomcaa
open Go.RowKit
set_option maxRecDepth 100000 in
set_option maxHeartbeats 1000000 in
theorem beforeU_any (x y : Mu) (w : World) : Calls Try.prog 20 #[.agg #[.int .i64 x.k, .int .i64 x.i, .int .i64 x.t, .int .i64 x.v], .agg #[.int .i64 y.k, .int .i64 y.i, .int .i64 y.t, .int .i64 y.v]] w fun e w' => e = .returned (.bool (ult x y)) ∧ Below w.heap.size w w' := by
  by_cases h1 : x.k = y.k
  · have b1 : (x.k != y.k) = false := by simpa using h1
    by_cases h2 : x.i = y.i
    · have e2 : (x.i != y.i) = false := by simpa using h2
      by_cases h3 : x.t = y.t
      · have b3 : (x.t != y.t) = false := by simpa using h3
        have HE : Hid (ult x y = decide (x.v < y.v)) := by show _ = _; simp [ult, h1, h2, h3]
        clear h1 h2 h3
        go_enter Try.func20, Try.ntmps20
        go_wp2
        go_ret
        exact ⟨by rw [HE.out]; rfl, b2 _ _ _⟩
      · have b3 : (x.t != y.t) = true := by simpa using h3
        have HE : Hid (ult x y = decide (x.t < y.t)) := by show _ = _; simp [ult, h1, h2, h3]
        clear h1 h2 h3
        go_enter Try.func20, Try.ntmps20
        go_wp2
        go_ret
        exact ⟨by rw [HE.out]; rfl, b2 _ _ _⟩
    · have e2 : (x.i != y.i) = true := by simpa using h2
      have HE : Hid (ult x y = decide (x.i < y.i)) := by show _ = _; simp [ult, h1, h2]
      clear h1 h2
      go_enter Try.func20, Try.ntmps20
      go_wp2
      go_ret
      exact ⟨by rw [HE.out]; rfl, b2 _ _ _⟩
  · have b1 : (x.k != y.k) = true := by simpa using h1
    have HE : Hid (ult x y = decide (x.k < y.k)) := by show _ = _; simp [ult, h1]
    clear h1
    go_enter Try.func20, Try.ntmps20
    go_wp2
    go_ret
    exact ⟨by rw [HE.out]; rfl, b2 _ _ _⟩

theorem turnU_get (l : List Mu) (r q : Nat) (hr : r < l.length) (hq : q < l.length) : (l.drop r ++ l.take r)[q]'(by simp; omega) = l[(q + r) % l.length]'(Nat.mod_lt _ (by omega)) := by
  by_cases h : q < l.length - r
  · rw [List.getElem_append_left (by simp; omega), List.getElem_drop]
    congr 1
    rw [Nat.mod_eq_of_lt (by omega)]
    omega
  · rw [List.getElem_append_right (by simp; omega), List.getElem_take]
    congr 1
    have : (q + r) % l.length = q + r - l.length := by
      rw [Nat.mod_eq_sub_mod (by omega), Nat.mod_eq_of_lt (by omega)]
    rw [this]
    simp
    omega
theorem turnU_perm (l : List Mu) (r : Nat) : (l.drop r ++ l.take r).Perm l := by
  refine List.perm_append_comm.trans ?_
  rw [List.take_append_drop]
theorem turnU_take (l : List Mu) (r q : Nat) (hr : r < l.length) (hq : q < l.length) : (l.drop r ++ l.take r).take (q + 1) = (l.drop r ++ l.take r).take q ++ [l[(q + r) % l.length]'(Nat.mod_lt _ (by omega))] := by
  rw [List.take_succ_eq_append_getElem (by simp; omega), turnU_get l r q hr hq]
theorem turnU_idx (turn : Int) (n : Nat) (hn : 0 < n) : ∃ (r0 : Int) (r : Nat), r < n ∧ turn.tmod n = r0 ∧ -(n : Int) < r0 ∧ r0 < n ∧ (r0 + n).tmod n = (r : Int) ∧ (r0 + n) % (n : Int) = (r : Int) := by
  have a := Int.tmod_lt_of_pos turn (b := (n : Int)) (by omega)
  have b := Int.tmod_lt_of_pos (-turn) (b := (n : Int)) (by omega)
  rw [Int.neg_tmod] at b
  have c := Int.emod_nonneg (turn.tmod n + n) (show (n : Int) ≠ 0 by omega)
  have d := Int.emod_lt_of_pos (turn.tmod n + n) (show (0 : Int) < n by omega)
  refine ⟨turn.tmod n, ((turn.tmod n + n) % (n : Int)).toNat, by omega, rfl, by omega, a, ?_, by omega⟩
  rw [Int.tmod_eq_emod_of_nonneg (by omega)]
  omega
/-- Each one twice. -/
def dup (l : List Mu) : List Mu := l.flatMap fun x => [x, x]
theorem dup_perm : ∀ l : List Mu, (dup l).Perm (l ++ l)
  | [] => List.Perm.refl _
  | x :: l => by
    show (x :: x :: dup l).Perm (x :: (l ++ x :: l))
    refine List.Perm.cons x ?_
    refine (List.Perm.cons x (dup_perm l)).trans ?_
    exact List.perm_middle.symm
theorem ule_refl (x : Mu) : ule x x = true := by rw [ule_iff]; omega
theorem mem_dup {l : List Mu} {x : Mu} (h : x ∈ dup l) : x ∈ l := by
  obtain ⟨y, hy, hx⟩ := List.mem_flatMap.1 h
  simp at hx
  subst hx
  exact hy
theorem dup_sorted : ∀ {l : List Mu}, l.Pairwise (fun a b => ule a b = true) → (dup l).Pairwise (fun a b => ule a b = true)
  | [], _ => List.Pairwise.nil
  | x :: l, h => by
    rw [List.pairwise_cons] at h
    show (x :: x :: dup l).Pairwise _
    rw [List.pairwise_cons, List.pairwise_cons]
    refine ⟨fun y hy => ?_, fun y hy => h.1 y (mem_dup hy), dup_sorted h.2⟩
    rcases List.mem_cons.1 hy with rfl | hy
    · exact ule_refl _
    · exact h.1 y (mem_dup hy)
theorem ddF_dup : ∀ (l : List Mu) (p : Mu), ddF p (dup l) = ddF p l
  | [], _ => rfl
  | x :: l, p => by
    have e : sameU x x = true := by simp [sameU]
    show ddF p (x :: x :: dup l) = ddF p (x :: l)
    have h1 : ddF x (x :: dup l) = ddF x l := by
      show (if sameU x x then ddF x (dup l) else x :: ddF x (dup l)) = ddF x l
      rw [e, if_pos rfl]
      exact ddF_dup l x
    show (if sameU x p then ddF x (x :: dup l) else x :: ddF x (x :: dup l)) = (if sameU x p then ddF x l else x :: ddF x l)
    rw [h1]
theorem dd_dup : ∀ l : List Mu, dd (dup l) = dd l
  | [] => rfl
  | x :: l => by
    have e : sameU x x = true := by simp [sameU]
    show x :: ddF x (x :: dup l) = x :: ddF x l
    congr 1
    show (if sameU x x then ddF x (dup l) else x :: ddF x (dup l)) = ddF x l
    rw [e, if_pos rfl]
    exact ddF_dup l x
theorem thatC_twice {l k : List Mu} (h : k.Perm l) : thatC (l ++ k) = thatC l := by
  have e : sortU (l ++ k) = dup (sortU l) := by
    refine (sortU_of ?_ (dup_sorted (sortU_sorted l))).symm
    refine (dup_perm _).trans ?_
    exact (sortU_perm l).append ((sortU_perm l).trans h.symm)
  unfold thatC
  rw [e, dd_dup]
theorem appG_perm (G : List Vx) {l k : List Mu} (h : k.Perm l) : appG G k = appG G l := by unfold appG; rw [thatC_perm h]
theorem appG_twice (G : List Vx) {l k : List Mu} (h : k.Perm l) : appG G (l ++ k) = appG G l := by unfold appG; rw [thatC_twice h]
end Go.Proofs.Ythnhmhjcpdomcaa
end

section
/- The document's Apply: requests are laid in their order, and done one by one. -/
namespace Go.Proofs.Ythnhmhjcpdomcaa
open Go.RowKit Go.Sort
theorem muFlat_take (S : List Mu) (k : Nat) : (S.flatMap muCells).take (k * 4) = (S.take k).flatMap muCells := by
  by_cases h : k ≤ S.length
  · have e : S.flatMap muCells = (S.take k).flatMap muCells ++ (S.drop k).flatMap muCells := by rw [← List.flatMap_append, List.take_append_drop]
    rw [e, List.take_left' (by rw [mu_len, List.length_take, Nat.min_eq_left h])]
  · rw [List.take_of_length_le (l := S) (by omega), List.take_of_length_le (by rw [mu_len]; omega)]
theorem muFlat_drop (S : List Mu) (k : Nat) : (S.flatMap muCells).drop (k * 4) = (S.drop k).flatMap muCells := by
  by_cases h : k ≤ S.length
  · have e : S.flatMap muCells = (S.take k).flatMap muCells ++ (S.drop k).flatMap muCells := by rw [← List.flatMap_append, List.take_append_drop]
    rw [e, List.drop_left' (by rw [mu_len, List.length_take, Nat.min_eq_left h])]
  · rw [List.drop_of_length_le (l := S) (by omega), List.drop_of_length_le (by rw [mu_len]; omega)]; rfl
theorem muFlat_one (S : List Mu) : ∀ u ∈ S.flatMap muCells, u.oneCell' = true := by
  intro u hu
  obtain ⟨y, _, h⟩ := List.mem_flatMap.1 hu
  exact muOne y u h
/-- What the loops hold. -/
structure AI (w wr : World) (o : Option Addr) (m c : Nat) (S : List Mu) : Prop where
  row : RO wr w.heap.size (.slice o m c) S
  low : Below w.heap.size w wr
theorem AI.new {w wr w' : World} {o : Option Addr} {m c : Nat} {S : List Mu} (h : AI w wr o m c S) (hb : Below wr.heap.size wr w') : AI w w' o m c S := ⟨h.row.new hb, h.low.trans (hb.mono h.low.size)⟩
theorem AI.len {w wr : World} {o : Option Addr} {m c : Nat} {S : List Mu} (h : AI w wr o m c S) : m = S.length ∧ S.length ≤ c ∧ ((o = none ∧ S.length = 0 ∧ c = 0) ∨ ∃ gb, o = some ⟨gb, 0, none⟩) := own_shapeG h.row
theorem run_next {G : List Vx} {l : List Mu} {y : Mu} {Mi : List (Vx × Value)} {cn : Nat} (h1 : Mi.map (·.1) = (runU (G, 0) l).1) (h2 : (runU (G, 0) l).2 = cn) : runU (G, 0) (l ++ [y]) = ((doG (Mi.map (·.1)) y).1, cn + if (doG (Mi.map (·.1)) y).2 then 1 else 0) := by
  rw [runU_snoc]
  unfold stepU
  rw [h1, h2]
theorem dd_first {S : List Mu} (h : 0 < S.length) : dd (S.take (0 + 1)) = dd (S.take 0) ++ [S[0]] := by
  cases S with
  | nil => simp at h
  | cons x S => simp [dd, ddF]
theorem run_big {G : List Vx} {Mi : List (Vx × Value)} {S : List Mu} {q j N : Nat} (hf : Fine G) (hu : Up N G) (h1 : Mi.map (·.1) = (runU (G, 0) (dd (S.take q))).1) (hq : q ≤ j) (hj : N + j ≤ 400000) : Mi.length ≤ 500000 ∧ ∀ x ∈ Mi, x.1.es.length ≤ 500000 := by
  have h2 := runU_up (s := (G, 0)) hf hu (dd (S.take q))
  rw [← h1] at h2
  have h3 := dd_len (S.take q)
  rw [List.length_take] at h3
  refine ⟨?_, fun x hx => ?_⟩
  · have := h2.1; rw [List.length_map] at this; omega
  · have := h2.2 x.1 (List.mem_map.2 ⟨x, hx, rfl⟩); omega
set_option maxRecDepth 100000 in
set_option maxHeartbeats 2000000 in
theorem refapply_any {w : World} {gv : Value} {M : List (Vx × Value)} {P : Nat → Prop} {lo : Option Addr} (L : List Mu) (lc : Nat) (h : RG w gv M) (hL : UsAt w P lo L) (hk : ∀ m ∈ L, 1 ≤ m.k ∧ m.k ≤ 4) (hf : Fine (M.map (·.1))) {N : Nat} (hu : Up N (M.map (·.1))) (hN : N + L.length ≤ 400000) :
    Calls Try.prog 17 #[gv, .slice lo L.length lc] w fun r w' => ∃ v' M', r = .returned (.tuple #[v', .int .i64 (appG (M.map (·.1)) L).2]) ∧ M'.map (·.1) = (appG (M.map (·.1)) L).1 ∧ RG w' v' M' ∧ Below w.heap.size w w' := by
  obtain ⟨n, hn⟩ : ∃ n, L.length = n := ⟨_, rfl⟩
  rw [hn]
  have HN : Hid (L.length = n) := hn
  have hnb : N + n ≤ 400000 := by omega
  have HR : Hid _ := h
  have HL : Hid (∀ W, Below w.heap.size w W → UsAt W P lo L) := fun W hb => hL.new hb
  have HKd : Hid _ := hk
  have HFi : Hid _ := hf
  have HUp : Hid _ := hu
  obtain ⟨go, gn, gc, rfl⟩ := own_any h.row
  clear h hL hk hf hu hn hN
  go_enter Try.func17, Try.ntmps17
  go_wp2
  go_loopw [6, 7] (fun u i wr => ∃ (j : Nat) (o : Option Addr) (m c : Nat), j ≤ n ∧ u = .slice o m c ∧ i = .int .i64 j ∧ AI w wr o m c (sortU (L.take j))) (fun _ i _ => n - (intOf i).toNat)
  case atStart =>
    exact ⟨0, _, _, _, Nat.zero_le _, rfl, rfl, ⟨by rw [List.take_zero, sortU_nil]; exact own_emptyG (Nat.le_refl _), one_newU _ _⟩⟩
  case round =>
    obtain ⟨j, o, m, c, hj, rfl, rfl, hA⟩ := hrel
    by_cases hlt : j < n
    · have hLn := HN.out
      obtain ⟨b, off, rfl, hP, hc⟩ := HL.out _ hA.low (by omega)
      have hjL : j < L.length := by omega
      have HCy : Hid (∀ W, Below wr.heap.size wr W → UC W b (off + j * 4) L[j]) := fun W hb => (hc j hjL).new hb
      have HT : Hid (L.take (j + 1) = L.take j ++ [L[j]]) := List.take_succ_eq_append_getElem hjL
      generalize L[j] = y at HCy HT
      obtain ⟨hmS, hSc, hSo⟩ := hA.len
      have hSl : (sortU (L.take j)).length = j := by rw [sortU_len, List.length_take]; omega
      have HSp : Hid (∀ k, k ≤ j → (∀ q (h : q < (sortU (L.take j)).length), k ≤ q → ult y (sortU (L.take j))[q] = true) → (0 < k → ∀ h : k - 1 < (sortU (L.take j)).length, ult y (sortU (L.take j))[k - 1] = false) → (sortU (L.take j)).take k ++ [y] ++ (sortU (L.take j)).drop k = sortU (L.take (j + 1))) := fun k hk h1 h2 => by rw [HT.out]; exact sortU_put _ y k (by rw [List.length_take]; omega) h1 h2
      generalize sortU (L.take j) = S at hA hmS hSc hSo hSl HSp
      have HA : Hid _ := hA
      have HMS : Hid (m = j) := by show _ = _; omega
      have HSL : Hid (S.length = j) := hSl
      have HSO : Hid _ := hSo
      have HSC : Hid _ := hSc
      clear hA hc hLn hmS hSc hSo hSl HT hjL
      go_wp2
      go_loopw [8] (fun a wx => ∃ k : Nat, k ≤ j ∧ a = .int .i64 k ∧ AI w wx o m c S ∧ Below wr.heap.size wr wx ∧ Hid (∀ q (h : q < S.length), k ≤ q → ult y S[q] = true)) (fun a _ => (intOf a).toNat)
      case atStart => exact ⟨j, Nat.le_refl _, by rw [HMS.out], HA.out, Below.refl _ _, fun q h hq => by have := HSL.out; omega⟩
      case round =>
        obtain ⟨k, hkj, rfl, hA2, hbx, hU⟩ := hrel
        have HA2 : Hid _ := hA2
        have HBX : Hid _ := hbx
        have HU : Hid _ := hU.out
        clear hA2 hbx hU
        by_cases hk0 : k = 0
        · subst hk0
          go_upto_region 6 with (fail)
          go_quiet (fail)
          go_upto_region 8 with (fail)
          obtain ⟨WX, hWX⟩ : ∃ WX, wr.drewN nq = WX := ⟨_, rfl⟩
          have hbW : Below wr.heap.size wr WX := by rw [← hWX]; exact ⟨rfl, rfl, rfl, Nat.le_refl _, fun _ _ => rfl⟩
          have HA3 : Hid _ := AI.new HA2.out hbW
          have HBX3 : Hid _ := HBX.out.trans (hbW.mono HBX.out.size)
          have hrw : WX.ownsRow w.heap.size 45 4 (.slice o m c) m (S.flatMap muCells) := by have := HA3.out.row; unfold RO at this; rwa [HSL.out, ← HMS.out] at this
          simp only [hWX]
          clear hWX hbW HA2 HBX
          refine apply_r8 (go := o) (gn := m) (gc := c) (at_ := 0) (lb := b) (loff := off) (ln := n) (lc := lc) (ii := j) (m := y) (s1 := (S.take 0).flatMap muCells) (s2 := (S.drop 0).flatMap muCells) rfl rfl rfl rfl rfl hlt (by rcases HSO.out with ⟨e1, e2, e3⟩ | e; exact .inl ⟨e1, by have := HSL.out; have := HMS.out; omega, e3, by have := HSL.out; omega⟩; exact .inr e) (by have := HMS.out; omega) (by have := HSC.out; have := HSL.out; have := HMS.out; omega) (by have := HMS.out; omega)
            (fun W hb => HCy.out W (HBX3.out.trans (hb.mono HBX3.out.size)))
            (by rw [mu_len, List.length_take, HSL.out]; omega) (fun W hb => by rw [← muFlat_take]; exact SrcF.new (src_take hrw 0 (by have := HMS.out; omega)) hb) (muFlat_one _)
            (by rw [mu_len, List.length_drop, HSL.out, HMS.out]) (fun W hb => by rw [← muFlat_drop]; exact SrcF.new (src_drop hrw 0) hb) (muFlat_one _) ?_
          intro X W rv h6 hown _ hlow
          have HNew : Hid (RO W w.heap.size rv (sortU (L.take (j + 1)))) := by
            have e := HSp.out 0 (by omega) HU.out (fun h => absurd h (by omega))
            rw [← e]
            show W.ownsRow _ _ _ _ _ _
            have hl : (S.take 0 ++ [y] ++ S.drop 0).length = 0 + 0 + 1 + (m - 0) := by have := HMS.out; have := HSL.out; simp; omega
            rw [hl, List.flatMap_append, List.flatMap_append]
            exact own_low (by simpa [muCells] using hown) (Nat.le_trans HA3.out.low.size (Nat.le_refl _))
          have HLw : Hid (Below w.heap.size w W) := HA3.out.low.trans (hlow.mono HA3.out.low.size)
          obtain ⟨ro, rn, rc, hrv⟩ := own_any hown
          subst hrv
          simp only [puts]
          rw [h6]
          generalize X 39 = x39
          generalize X 40 = x40
          generalize X 41 = x41
          generalize X 42 = x42
          generalize X 43 = x43
          generalize X 44 = x44
          generalize X 45 = x45
          generalize X 46 = x46
          generalize X 47 = x47
          generalize X 48 = x48
          generalize X 49 = x49
          generalize X 50 = x50
          generalize X 51 = x51
          generalize X 52 = x52
          generalize X 53 = x53
          clear h6 hown hlow hrw
          simp only [Act.put, List.setIfInBounds_toArray, List.set_cons_succ, List.set_cons_zero]
          go_wp2
          go_roundw
          case rel => exact ⟨j + 1, _, _, _, by omega, rfl, by go_num, ⟨HNew.out, HLw.out⟩⟩
          case measure => simp [intOf]; omega
        · obtain ⟨k', rfl⟩ : ∃ k', k = k' + 1 := ⟨k - 1, by omega⟩
          have hSL := HSL.out
          obtain ⟨gb, rfl⟩ : ∃ gb, o = some ⟨gb, 0, none⟩ := by rcases HSO.out with ⟨_, e2, _⟩ | e; omega; exact e
          have hkS : k' < S.length := by omega
          have hy := HCy.out wr HBX.out
          have hz : UC wr gb (k' * 4) S[k'] := by
            have hc : ∀ i u, (S.flatMap muCells)[i]? = some u → wr.cell? ⟨gb, i, none⟩ = some u := fun i u hu => by
              have := World.ownsRow.cells HA2.out.row (g := gb) rfl i u hu
              rwa [Addr.add_lit, Nat.zero_add] at this
            obtain ⟨a0, a1, a2, a3⟩ := cellsU_get S k' hkS
            exact ⟨hc _ _ a0, hc _ _ a1, hc _ _ a2, hc _ _ a3⟩
          have HZk : Hid (∀ q (h : q < S.length), q = k' → S[q] = S[k']) := fun q h e => by subst e; rfl
          have x0 := And.intro hy hz
          have hBf := fun W => beforeU_any y S[k'] W
          generalize S[k'] = z at x0 HZk hBf
          have hsub : ((k' + 1 : Nat) : Int) - 1 = (k' : Int) := by omega
          have hwr : IntKind.i64.wrap (k' : Int) = (k' : Int) := IntWalk.i64_in _ (by omega)
          have hpos : (0 : Int) < ((k' + 1 : Nat) : Int) := by omega
          have hkm : k' < m := by have := HMS.out; omega
          obtain ⟨kk, hkk⟩ : ∃ kk : Nat, k' + 1 = kk := ⟨_, rfl⟩
          rw [hkk] at hsub hpos ⊢
          have hdec : decide ((0 : Int) < (kk : Int)) = true := by rw [decide_eq_true_iff]; exact hpos
          have hkp : 0 < kk := by omega
          clear hpos
          have HKK : Hid _ := hkk
          clear hy hz hkk hSL
          unfold UC at x0
          cases hul : ult y z
          · rw [hul] at hBf
            have HUL : Hid _ := hul
            clear hul
            go_upto_region 6 with (fail)
            go_region_held (fun w' => (w'.cell? ⟨b, off + j * 4, none⟩ = some (.int .i64 y.k) ∧ w'.cell? ⟨b, off + j * 4 + 1, none⟩ = some (.int .i64 y.i) ∧ w'.cell? ⟨b, off + j * 4 + 2, none⟩ = some (.int .i64 y.t) ∧ w'.cell? ⟨b, off + j * 4 + 3, none⟩ = some (.int .i64 y.v)) ∧ (w'.cell? ⟨gb, k' * 4, none⟩ = some (.int .i64 z.k) ∧ w'.cell? ⟨gb, k' * 4 + 1, none⟩ = some (.int .i64 z.i) ∧ w'.cell? ⟨gb, k' * 4 + 2, none⟩ = some (.int .i64 z.t) ∧ w'.cell? ⟨gb, k' * 4 + 3, none⟩ = some (.int .i64 z.v)))
              (first | exact x0 | exact x1)
              (first | (go_at_call 20; refine (hBf _).mono ?_; rintro e w1 ⟨rfl, hb1⟩; have x1 := And.intro (UC.new (w := wr.drew) x0.1 hb1) (UC.new (w := wr.drew) x0.2 hb1); unfold UC at x1))
            have hbW : Below wr.heap.size wr w1 := ((Below.refl _ _).drew).trans hb1
            have HA3 : Hid _ := AI.new HA2.out hbW
            have HBX3 : Hid _ := HBX.out.trans (hbW.mono HBX.out.size)
            have hrw : w1.ownsRow w.heap.size 45 4 (.slice (some ⟨gb, 0, none⟩) m c) m (S.flatMap muCells) := by have := HA3.out.row; unfold RO at this; rwa [HSL.out, ← HMS.out] at this
            clear hb1 hbW HA2 HBX x0 x1 hBf
            go_upto_region 8 with (fail)
            have hkk := HKK.out
            rw [hkk] at HU
            refine apply_r8 (go := some ⟨gb, 0, none⟩) (gn := m) (gc := c) (at_ := kk) (lb := b) (loff := off) (ln := n) (lc := lc) (ii := j) (m := y) (s1 := (S.take kk).flatMap muCells) (s2 := (S.drop kk).flatMap muCells) rfl rfl rfl rfl rfl hlt (by rcases HSO.out with ⟨e1, e2, e3⟩ | e; exact .inl ⟨e1, by have := HSL.out; have := HMS.out; omega, e3, by have := HSL.out; omega⟩; exact .inr e) (by have := HMS.out; omega) (by have := HSC.out; have := HSL.out; have := HMS.out; omega) (by have := HMS.out; omega)
              (fun W hb => HCy.out W (HBX3.out.trans (hb.mono HBX3.out.size)))
              (by rw [mu_len, List.length_take, HSL.out]; omega) (fun W hb => by rw [← muFlat_take]; exact SrcF.new (src_take hrw kk (by have := HMS.out; omega)) hb) (muFlat_one _)
              (by rw [mu_len, List.length_drop, HSL.out, HMS.out]) (fun W hb => by rw [← muFlat_drop]; exact SrcF.new (src_drop hrw kk) hb) (muFlat_one _) ?_
            intro X W rv h6 hown _ hlow
            have HNew : Hid (RO W w.heap.size rv (sortU (L.take (j + 1)))) := by
              have e := HSp.out kk (by omega) HU.out (fun _ h => by rw [HZk.out (kk - 1) h (by omega)]; exact HUL.out)
              rw [← e]
              show W.ownsRow _ _ _ _ _ _
              have hl : (S.take kk ++ [y] ++ S.drop kk).length = 0 + kk + 1 + (m - kk) := by have := HMS.out; have := HSL.out; simp; omega
              rw [hl, List.flatMap_append, List.flatMap_append]
              exact own_low (by simpa [muCells] using hown) (Nat.le_trans HA3.out.low.size (Nat.le_refl _))
            have HLw : Hid (Below w.heap.size w W) := HA3.out.low.trans (hlow.mono HA3.out.low.size)
            obtain ⟨ro, rn, rc, hrv⟩ := own_any hown
            subst hrv
            simp only [puts]
            rw [h6]
            generalize X 39 = x39
            generalize X 40 = x40
            generalize X 41 = x41
            generalize X 42 = x42
            generalize X 43 = x43
            generalize X 44 = x44
            generalize X 45 = x45
            generalize X 46 = x46
            generalize X 47 = x47
            generalize X 48 = x48
            generalize X 49 = x49
            generalize X 50 = x50
            generalize X 51 = x51
            generalize X 52 = x52
            generalize X 53 = x53
            clear h6 hown hlow hrw
            simp only [Act.put, List.setIfInBounds_toArray, List.set_cons_succ, List.set_cons_zero]
            go_wp2
            go_roundw
            case rel => exact ⟨j + 1, _, _, _, by omega, rfl, by go_num, ⟨HNew.out, HLw.out⟩⟩
            case measure => simp [intOf]; omega
          · rw [hul] at hBf
            have HUL : Hid _ := hul
            clear hul
            go_upto_region 6 with (fail)
            go_region_held (fun w' => (w'.cell? ⟨b, off + j * 4, none⟩ = some (.int .i64 y.k) ∧ w'.cell? ⟨b, off + j * 4 + 1, none⟩ = some (.int .i64 y.i) ∧ w'.cell? ⟨b, off + j * 4 + 2, none⟩ = some (.int .i64 y.t) ∧ w'.cell? ⟨b, off + j * 4 + 3, none⟩ = some (.int .i64 y.v)) ∧ (w'.cell? ⟨gb, k' * 4, none⟩ = some (.int .i64 z.k) ∧ w'.cell? ⟨gb, k' * 4 + 1, none⟩ = some (.int .i64 z.i) ∧ w'.cell? ⟨gb, k' * 4 + 2, none⟩ = some (.int .i64 z.t) ∧ w'.cell? ⟨gb, k' * 4 + 3, none⟩ = some (.int .i64 z.v)))
              (first | exact x0 | exact x1)
              (first | (go_at_call 20; refine (hBf _).mono ?_; rintro e w1 ⟨rfl, hb1⟩; have x1 := And.intro (UC.new (w := wr.drew) x0.1 hb1) (UC.new (w := wr.drew) x0.2 hb1); unfold UC at x1))
            have hbW : Below wr.heap.size wr w1 := ((Below.refl _ _).drew).trans hb1
            have HA3 : Hid _ := AI.new HA2.out hbW
            have HBX3 : Hid _ := HBX.out.trans (hbW.mono HBX.out.size)
            clear hb1 hbW HA2 HBX x0 x1 hBf
            have hkk := HKK.out
            go_wp2
            go_roundw
            case rel => exact ⟨k', by omega, by go_num, HA3.out, HBX3.out, fun q h hq => by
              by_cases e : q = k'
              · rw [HZk.out q h e]; exact HUL.out
              · exact HU.out q h (by omega)⟩
            case measure => simp [intOf]; omega
    · obtain rfl : j = n := by omega
      have hLt : L.take j = L := List.take_of_length_le (by have := HN.out; omega)
      rw [hLt] at hA
      obtain ⟨hmS, hSc, hSo⟩ := hA.len
      have hSl : (sortU L).length = j := by rw [sortU_len]; exact HN.out
      have HSk : Hid (∀ x ∈ sortU L, 1 ≤ x.k ∧ x.k ≤ 4) := fun x hx => HKd.out x (sortU_mem.1 hx)
      have HAp : Hid (appG (M.map (·.1)) L = runU (M.map (·.1), 0) (dd (sortU L))) := rfl
      generalize sortU L = S at hA hmS hSc hSo hSl HSk HAp
      have HA : Hid _ := hA
      have HMS : Hid (m = j) := by show _ = _; omega
      have HSL : Hid (S.length = j) := hSl
      have HSO : Hid _ := hSo
      clear hA hmS hSc hSo hSl hLt
      go_wp2
      go_loopw [0, 9, 10] (fun g cn i wx => ∃ (q : Nat) (Mi : List (Vx × Value)), q ≤ j ∧ i = .int .i64 q ∧ cn = .int .i64 ((runU (M.map (·.1), 0) (dd (S.take q))).2) ∧ RG wx g Mi ∧ Mi.map (·.1) = (runU (M.map (·.1), 0) (dd (S.take q))).1 ∧ AI w wx o m c S) (fun _ _ i _ => j - (intOf i).toNat)
      case atStart => exact ⟨0, M, Nat.zero_le _, rfl, rfl, HR.out.new HA.out.low, rfl, HA.out⟩
      case round =>
        obtain ⟨q, Mi, hq, rfl, rfl, hRG, hMi, hA2⟩ := hrel
        by_cases hlt2 : q < j
        · have hqS : q < S.length := by have := HSL.out; omega
          obtain ⟨gb, rfl⟩ : ∃ gb, o = some ⟨gb, 0, none⟩ := by rcases HSO.out with ⟨_, e2, _⟩ | e; omega; exact e
          have hcs : ∀ i (h : i < S.length), UC wr gb (i * 4) S[i] := fun i h => by
            have hc : ∀ i u, (S.flatMap muCells)[i]? = some u → wr.cell? ⟨gb, i, none⟩ = some u := fun i u hu => by
              have := World.ownsRow.cells hA2.row (g := gb) rfl i u hu
              rwa [Addr.add_lit, Nat.zero_add] at this
            obtain ⟨a0, a1, a2, a3⟩ := cellsU_get S i h
            exact ⟨hc _ _ a0, hc _ _ a1, hc _ _ a2, hc _ _ a3⟩
          have hy := hcs q hqS
          have HKy : Hid _ := HSk.out S[q] (List.getElem_mem hqS)
          have hqm : q < m := by have := HMS.out; omega
          obtain ⟨go2, gn2, gc2, rfl⟩ := own_any hRG.row
          have HRG : Hid _ := hRG
          have HMi : Hid _ := hMi
          have HA2 : Hid _ := hA2
          have HBg : Hid _ := run_big HFi.out HUp.out hMi hq (by omega)
          have HCn : Hid (∀ (a : Nat), (runU (M.map (·.1), 0) (dd (S.take q))).2 = (runU (M.map (·.1), 0) (dd (S.take q))).2) := fun _ => rfl
          clear HCn
          obtain ⟨cn, hcn⟩ : ∃ cn, (runU (M.map (·.1), 0) (dd (S.take q))).2 = cn := ⟨_, rfl⟩
          rw [hcn]
          have HCn : Hid _ := hcn
          have hcn60 : cn ≤ 400000 := by
            have h1 := runU_cnt (M.map (·.1), 0) (dd (S.take q))
            have h3 := dd_len (S.take q)
            rw [List.length_take] at h3
            rw [hcn] at h1
            simp only at h1
            omega
          clear hcn hMi hRG hA2
          by_cases hq0 : q = 0
          · subst hq0
            have HD : Hid _ := dd_first hqS
            generalize S[0] = y at hy HKy HD
            obtain ⟨f0, f1, f2, f3⟩ := hy
            clear hcs
            go_upto_region 14 with (fail)
            obtain ⟨W1, hW1⟩ : ∃ W1, wr.alloc (.cells #[.int .i64 y.k, .int .i64 y.i, .int .i64 y.t, .int .i64 y.v] 45) = W1 := ⟨_, rfl⟩
            have hb1 : Below wr.heap.size wr W1 := by rw [← hW1]; exact one_newU _ _
            have hx1 : W1.heap[wr.heap.size]? = some (boxU y) := by rw [← hW1]; exact heap_alloc_new _ _
            obtain ⟨c0, c1, c2, c3⟩ := cellU4 hx1
            simp only [hW1]
            clear hW1
            go_quiet (fail)
            go_upto_region 15 with (fail)
            obtain ⟨W2, hW2⟩ : ∃ W2, W1.drewN nq = W2 := ⟨_, rfl⟩
            have hb2 : Below wr.heap.size wr W2 := by rw [← hW2]; exact hb1.trans ⟨rfl, rfl, rfl, Nat.le_refl _, fun _ _ => rfl⟩
            have hx2 : W2.heap[wr.heap.size]? = some (boxU y) := by rw [← hW2]; exact hx1
            obtain ⟨d0, d1, d2, d3⟩ := cellU4 hx2
            have HB2 : Hid _ := hb2
            simp only [hW2]
            clear hW2 hb1 hb2 hx1 hx2 c0 c1 c2 c3 f0 f1 f2 f3
            cases hcb : (doG (Mi.map (·.1)) y).2
            · have hone := fun W (hb : Below wr.heap.size wr W) => one_any (m := y) (HRG.out.new hb) HKy.out HBg.out.1 HBg.out.2
              rw [hcb] at hone
              have HOne : Hid _ := hone
              have HRn : Hid _ := run_next (y := y) HMi.out HCn.out
              rw [hcb] at HRn
              clear hone hcb
              go_wp2_with (go_at_call 47; refine (HOne.out W2 HB2.out).mono ?_; rintro r w3 ⟨v3, M3, rfl, h1, h2, h3⟩; have HM3 : Hid _ := h1; have HR3 : Hid _ := h2; have HB3 : Hid _ := h3; obtain ⟨go3, gn3, gc3, rfl⟩ := own_any h2.row; clear h1 h2 h3)
              go_roundw
              case rel => exact ⟨0 + 1, M3, by omega, by go_num, by rw [HD.out, HRn.out]; rfl, HR3.out, by rw [HD.out, HRn.out]; exact HM3.out, AI.new (AI.new HA2.out HB2.out) HB3.out⟩
              case measure => simp [intOf]; omega
            · have hone := fun W (hb : Below wr.heap.size wr W) => one_any (m := y) (HRG.out.new hb) HKy.out HBg.out.1 HBg.out.2
              rw [hcb] at hone
              have HOne : Hid _ := hone
              have HRn : Hid _ := run_next (y := y) HMi.out HCn.out
              rw [hcb] at HRn
              clear hone hcb
              go_wp2_with (go_at_call 47; refine (HOne.out W2 HB2.out).mono ?_; rintro r w3 ⟨v3, M3, rfl, h1, h2, h3⟩; have HM3 : Hid _ := h1; have HR3 : Hid _ := h2; have HB3 : Hid _ := h3; obtain ⟨go3, gn3, gc3, rfl⟩ := own_any h2.row; clear h1 h2 h3)
              go_roundw
              case rel => exact ⟨0 + 1, M3, by omega, by go_num, by rw [HD.out, HRn.out]; go_num, HR3.out, by rw [HD.out, HRn.out]; exact HM3.out, AI.new (AI.new HA2.out HB2.out) HB3.out⟩
              case measure => simp [intOf]; omega
          · obtain ⟨p', hpq⟩ : ∃ p', q = p' + 1 := ⟨q - 1, by omega⟩
            have hpS : p' < S.length := by omega
            have HDt := dd_take hpq hqS
            have hz := hcs p' hpS
            generalize S[q] = y at hy HKy HDt
            generalize S[p'] = z at hz HDt
            have hsub : (q : Int) - 1 = (p' : Int) := by omega
            have hwr : IntKind.i64.wrap (p' : Int) = (p' : Int) := IntWalk.i64_in _ (by omega)
            have hkp : 0 < q := by omega
            have hpm : p' < m := by omega
            obtain ⟨f0, f1, f2, f3⟩ := hy
            have HHz : Hid _ := hz
            have HDT : Hid _ := HDt
            clear hcs hz HDt hq0 hpq
            go_upto_region 14 with (fail)
            obtain ⟨W1, hW1⟩ : ∃ W1, wr.alloc (.cells #[.int .i64 y.k, .int .i64 y.i, .int .i64 y.t, .int .i64 y.v] 45) = W1 := ⟨_, rfl⟩
            have hb1 : Below wr.heap.size wr W1 := by rw [← hW1]; exact one_newU _ _
            have hx1 : W1.heap[wr.heap.size]? = some (boxU y) := by rw [← hW1]; exact heap_alloc_new _ _
            obtain ⟨c0, c1, c2, c3⟩ := cellU4 hx1
            obtain ⟨g0, g1, g2, g3⟩ := UC.new HHz.out hb1
            simp only [hW1]
            clear hW1 f0 f1 f2 f3
            by_cases e1 : z.k = y.k
            · have t1 : (z.k == y.k) = true := by simpa using e1
              by_cases e2 : z.i = y.i
              · have t2 : (z.i == y.i) = true := by simpa using e2
                by_cases e3 : z.t = y.t
                · have t3 : (z.t == y.t) = true := by simpa using e3
                  have HD : Hid (dd (S.take (q + 1)) = dd (S.take q)) := by show _ = _; rw [HDT.out, (sameU_iff y z).2 ⟨e1.symm, e2.symm, e3.symm⟩]; simp
                  clear e1 e2 e3
                  go_quiet (fail)
                  go_wp2
                  go_roundw
                  case rel => exact ⟨q + 1, Mi, by omega, by go_num, by rw [HD.out, HCn.out], HRG.out.new (hb1.trans ⟨rfl, rfl, rfl, Nat.le_refl _, fun _ _ => rfl⟩), by rw [HD.out]; exact HMi.out, AI.new HA2.out (hb1.trans ⟨rfl, rfl, rfl, Nat.le_refl _, fun _ _ => rfl⟩)⟩
                  case measure => simp [intOf]; omega
                · have t3 : (z.t == y.t) = false := by simpa using e3
                  have HD : Hid (dd (S.take (q + 1)) = dd (S.take q) ++ [y]) := by show _ = _; rw [HDT.out, show sameU y z = false by rw [Bool.eq_false_iff]; exact fun h => e3 ((sameU_iff y z).1 h).2.2.symm]; simp
                  clear e1 e2 e3
                  go_quiet (fail)
                  go_upto_region 15 with (fail)
                  obtain ⟨W2, hW2⟩ : ∃ W2, W1.drewN nq = W2 := ⟨_, rfl⟩
                  have hb2 : Below wr.heap.size wr W2 := by rw [← hW2]; exact hb1.trans ⟨rfl, rfl, rfl, Nat.le_refl _, fun _ _ => rfl⟩
                  have hx2 : W2.heap[wr.heap.size]? = some (boxU y) := by rw [← hW2]; exact hx1
                  obtain ⟨d0, d1, d2, d3⟩ := cellU4 hx2
                  have HB2 : Hid _ := hb2
                  simp only [hW2]
                  clear hW2 hb1 hb2 hx1 hx2 c0 c1 c2 c3 g0 g1 g2 g3 t1 t2 t3
                  cases hcb : (doG (Mi.map (·.1)) y).2
                  · have hone := fun W (hb : Below wr.heap.size wr W) => one_any (m := y) (HRG.out.new hb) HKy.out HBg.out.1 HBg.out.2
                    rw [hcb] at hone
                    have HOne : Hid _ := hone
                    have HRn : Hid _ := run_next (y := y) HMi.out HCn.out
                    rw [hcb] at HRn
                    clear hone hcb
                    go_wp2_with (go_at_call 47; refine (HOne.out W2 HB2.out).mono ?_; rintro r w3 ⟨v3, M3, rfl, h1, h2, h3⟩; have HM3 : Hid _ := h1; have HR3 : Hid _ := h2; have HB3 : Hid _ := h3; obtain ⟨go3, gn3, gc3, rfl⟩ := own_any h2.row; clear h1 h2 h3)
                    go_roundw
                    case rel => exact ⟨q + 1, M3, by omega, by go_num, by rw [HD.out, HRn.out]; rfl, HR3.out, by rw [HD.out, HRn.out]; exact HM3.out, AI.new (AI.new HA2.out HB2.out) HB3.out⟩
                    case measure => simp [intOf]; omega
                  · have hone := fun W (hb : Below wr.heap.size wr W) => one_any (m := y) (HRG.out.new hb) HKy.out HBg.out.1 HBg.out.2
                    rw [hcb] at hone
                    have HOne : Hid _ := hone
                    have HRn : Hid _ := run_next (y := y) HMi.out HCn.out
                    rw [hcb] at HRn
                    clear hone hcb
                    go_wp2_with (go_at_call 47; refine (HOne.out W2 HB2.out).mono ?_; rintro r w3 ⟨v3, M3, rfl, h1, h2, h3⟩; have HM3 : Hid _ := h1; have HR3 : Hid _ := h2; have HB3 : Hid _ := h3; obtain ⟨go3, gn3, gc3, rfl⟩ := own_any h2.row; clear h1 h2 h3)
                    go_roundw
                    case rel => exact ⟨q + 1, M3, by omega, by go_num, by rw [HD.out, HRn.out]; go_num, HR3.out, by rw [HD.out, HRn.out]; exact HM3.out, AI.new (AI.new HA2.out HB2.out) HB3.out⟩
                    case measure => simp [intOf]; omega
              · have t2 : (z.i == y.i) = false := by simpa using e2
                have HD : Hid (dd (S.take (q + 1)) = dd (S.take q) ++ [y]) := by show _ = _; rw [HDT.out, show sameU y z = false by rw [Bool.eq_false_iff]; exact fun h => e2 ((sameU_iff y z).1 h).2.1.symm]; simp
                clear e1 e2
                go_quiet (fail)
                go_upto_region 15 with (fail)
                obtain ⟨W2, hW2⟩ : ∃ W2, W1.drewN nq = W2 := ⟨_, rfl⟩
                have hb2 : Below wr.heap.size wr W2 := by rw [← hW2]; exact hb1.trans ⟨rfl, rfl, rfl, Nat.le_refl _, fun _ _ => rfl⟩
                have hx2 : W2.heap[wr.heap.size]? = some (boxU y) := by rw [← hW2]; exact hx1
                obtain ⟨d0, d1, d2, d3⟩ := cellU4 hx2
                have HB2 : Hid _ := hb2
                simp only [hW2]
                clear hW2 hb1 hb2 hx1 hx2 c0 c1 c2 c3 g0 g1 g2 g3 t1 t2
                cases hcb : (doG (Mi.map (·.1)) y).2
                · have hone := fun W (hb : Below wr.heap.size wr W) => one_any (m := y) (HRG.out.new hb) HKy.out HBg.out.1 HBg.out.2
                  rw [hcb] at hone
                  have HOne : Hid _ := hone
                  have HRn : Hid _ := run_next (y := y) HMi.out HCn.out
                  rw [hcb] at HRn
                  clear hone hcb
                  go_wp2_with (go_at_call 47; refine (HOne.out W2 HB2.out).mono ?_; rintro r w3 ⟨v3, M3, rfl, h1, h2, h3⟩; have HM3 : Hid _ := h1; have HR3 : Hid _ := h2; have HB3 : Hid _ := h3; obtain ⟨go3, gn3, gc3, rfl⟩ := own_any h2.row; clear h1 h2 h3)
                  go_roundw
                  case rel => exact ⟨q + 1, M3, by omega, by go_num, by rw [HD.out, HRn.out]; rfl, HR3.out, by rw [HD.out, HRn.out]; exact HM3.out, AI.new (AI.new HA2.out HB2.out) HB3.out⟩
                  case measure => simp [intOf]; omega
                · have hone := fun W (hb : Below wr.heap.size wr W) => one_any (m := y) (HRG.out.new hb) HKy.out HBg.out.1 HBg.out.2
                  rw [hcb] at hone
                  have HOne : Hid _ := hone
                  have HRn : Hid _ := run_next (y := y) HMi.out HCn.out
                  rw [hcb] at HRn
                  clear hone hcb
                  go_wp2_with (go_at_call 47; refine (HOne.out W2 HB2.out).mono ?_; rintro r w3 ⟨v3, M3, rfl, h1, h2, h3⟩; have HM3 : Hid _ := h1; have HR3 : Hid _ := h2; have HB3 : Hid _ := h3; obtain ⟨go3, gn3, gc3, rfl⟩ := own_any h2.row; clear h1 h2 h3)
                  go_roundw
                  case rel => exact ⟨q + 1, M3, by omega, by go_num, by rw [HD.out, HRn.out]; go_num, HR3.out, by rw [HD.out, HRn.out]; exact HM3.out, AI.new (AI.new HA2.out HB2.out) HB3.out⟩
                  case measure => simp [intOf]; omega
            · have t1 : (z.k == y.k) = false := by simpa using e1
              have HD : Hid (dd (S.take (q + 1)) = dd (S.take q) ++ [y]) := by show _ = _; rw [HDT.out, show sameU y z = false by rw [Bool.eq_false_iff]; exact fun h => e1 ((sameU_iff y z).1 h).1.symm]; simp
              clear e1
              go_quiet (fail)
              go_upto_region 15 with (fail)
              obtain ⟨W2, hW2⟩ : ∃ W2, W1.drewN nq = W2 := ⟨_, rfl⟩
              have hb2 : Below wr.heap.size wr W2 := by rw [← hW2]; exact hb1.trans ⟨rfl, rfl, rfl, Nat.le_refl _, fun _ _ => rfl⟩
              have hx2 : W2.heap[wr.heap.size]? = some (boxU y) := by rw [← hW2]; exact hx1
              obtain ⟨d0, d1, d2, d3⟩ := cellU4 hx2
              have HB2 : Hid _ := hb2
              simp only [hW2]
              clear hW2 hb1 hb2 hx1 hx2 c0 c1 c2 c3 g0 g1 g2 g3 t1
              cases hcb : (doG (Mi.map (·.1)) y).2
              · have hone := fun W (hb : Below wr.heap.size wr W) => one_any (m := y) (HRG.out.new hb) HKy.out HBg.out.1 HBg.out.2
                rw [hcb] at hone
                have HOne : Hid _ := hone
                have HRn : Hid _ := run_next (y := y) HMi.out HCn.out
                rw [hcb] at HRn
                clear hone hcb
                go_wp2_with (go_at_call 47; refine (HOne.out W2 HB2.out).mono ?_; rintro r w3 ⟨v3, M3, rfl, h1, h2, h3⟩; have HM3 : Hid _ := h1; have HR3 : Hid _ := h2; have HB3 : Hid _ := h3; obtain ⟨go3, gn3, gc3, rfl⟩ := own_any h2.row; clear h1 h2 h3)
                go_roundw
                case rel => exact ⟨q + 1, M3, by omega, by go_num, by rw [HD.out, HRn.out]; rfl, HR3.out, by rw [HD.out, HRn.out]; exact HM3.out, AI.new (AI.new HA2.out HB2.out) HB3.out⟩
                case measure => simp [intOf]; omega
              · have hone := fun W (hb : Below wr.heap.size wr W) => one_any (m := y) (HRG.out.new hb) HKy.out HBg.out.1 HBg.out.2
                rw [hcb] at hone
                have HOne : Hid _ := hone
                have HRn : Hid _ := run_next (y := y) HMi.out HCn.out
                rw [hcb] at HRn
                clear hone hcb
                go_wp2_with (go_at_call 47; refine (HOne.out W2 HB2.out).mono ?_; rintro r w3 ⟨v3, M3, rfl, h1, h2, h3⟩; have HM3 : Hid _ := h1; have HR3 : Hid _ := h2; have HB3 : Hid _ := h3; obtain ⟨go3, gn3, gc3, rfl⟩ := own_any h2.row; clear h1 h2 h3)
                go_roundw
                case rel => exact ⟨q + 1, M3, by omega, by go_num, by rw [HD.out, HRn.out]; go_num, HR3.out, by rw [HD.out, HRn.out]; exact HM3.out, AI.new (AI.new HA2.out HB2.out) HB3.out⟩
                case measure => simp [intOf]; omega
        · obtain rfl : q = j := by omega
          have hSt : S.take q = S := List.take_of_length_le (by have := HSL.out; omega)
          rw [hSt] at hMi ⊢
          have HMi : Hid _ := hMi
          have HRG : Hid _ := hRG
          have HA2 : Hid _ := hA2
          obtain ⟨go2, gn2, gc2, rfl⟩ := own_any hRG.row
          clear hMi hRG hA2
          generalize hcn : (runU (M.map (·.1), 0) (dd S)).2 = cn
          have hqm : ¬ q < m := by have := HMS.out; omega
          go_wp2
          go_ret2
          exact ⟨_, by rw [HAp.out, hcn]; rfl, Mi, by rw [HAp.out]; exact HMi.out, HRG.out, HA2.out.low⟩
end Go.Proofs.Ythnhmhjcpdomcaa
end
