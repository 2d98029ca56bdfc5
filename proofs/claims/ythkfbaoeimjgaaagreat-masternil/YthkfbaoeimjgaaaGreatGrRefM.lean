import Derived.Test.YthkfbaoeimjgaaaGreatRegIM
import Derived.Below
import Derived.Test.YthkfbaoeimjgaaaGreatGrDataM
import Derived.Test.YthkfbaoeimjgaaaGreatProg
import Derived.WalkKit
import Derived.OwnWalk
import Derived.Test.YthkfbaoeimjgaaaGreatGrFind2M
import Derived.Deep.Cut
import Derived.Deep.DeepCutAuto
import Derived.Test.YthkfbaoeimjgaaaGreatGrTake2M
import Derived.Deep.RegionLaw
import Derived.BigRegion
section
/- A region that draws its order and lays new blocks alone: what each operation gives, in any order, stays as it is. One step an operation, one fact a slot. -/
namespace Go.Proofs.YthkfbaoeimjgaaaGreat
open Go Go.RowKit
section
variable {P : Program} {Q : Exit → Act → World → Prop} {md : Region.Mode}
/-- One step for each operation: what it needs is there; it gives what it must. -/
def StepsV (P : Program) (md : Region.Mode) (Q : Exit → Act → World → Prop) (A : Act) (ds : List Nat) (V : Nat → Value → World → Prop) (W0 : World) : Nat → List Oper → Prop
  | _, [] => True
  | i, o :: os => (∀ X W, Below W0.heap.size W0 W → (∀ k, needs md o k = true → V k (X (ds.getD k 0)) W) → o.wp P (puts A X ds) W (fun a' W' => ∃ v, a' = (puts A X ds).put o.dst v ∧ V i v W' ∧ Below W.heap.size W W') Q) ∧ StepsV P md Q A ds V W0 (i + 1) os
def dstsB : List Nat → List Oper → Bool
  | [], [] => true
  | d :: ds, o :: os => (o.dst == some d) && !ds.contains d && dstsB ds os
  | _, _ => false
theorem dstsB_len : ∀ {ds : List Nat} {os : List Oper}, dstsB ds os = true → ds.length = os.length
  | [], [], _ => rfl
  | [], _ :: _, h => by cases h
  | _ :: _, [], h => by cases h
  | d :: ds, o :: os, h => by
    simp only [dstsB, Bool.and_eq_true] at h
    simp [dstsB_len h.2]
theorem dstsB_at : ∀ {ds : List Nat} {os : List Oper}, dstsB ds os = true → ∀ {i : Nat} {o : Oper}, os[i]? = some o → o.dst = some (ds.getD i 0) ∧ ds.getD i 0 ∈ ds
  | [], [], _, i, o, h => by simp at h
  | [], _ :: _, h, _, _, _ => by cases h
  | _ :: _, [], h, _, _, _ => by cases h
  | d :: ds, o :: os, h, 0, x, e => by
    simp only [dstsB, Bool.and_eq_true] at h
    cases e
    exact ⟨by simpa using h.1.1, by simp⟩
  | d :: ds, o :: os, h, i + 1, x, e => by
    simp only [dstsB, Bool.and_eq_true] at h
    have := dstsB_at h.2 (i := i) e
    exact ⟨by simpa using this.1, by simpa using Or.inr this.2⟩
theorem dstsB_ne : ∀ {ds : List Nat} {os : List Oper}, dstsB ds os = true → ∀ {i j : Nat}, i < ds.length → j < ds.length → i ≠ j → ds.getD i 0 ≠ ds.getD j 0
  | [], [], _, i, j, h, _, _ => by simp at h
  | [], _ :: _, h, _, _, _, _, _ => by cases h
  | _ :: _, [], h, _, _, _, _, _ => by cases h
  | d :: ds, o :: os, h, i, j, hi, hj, hne => by
    simp only [dstsB, Bool.and_eq_true] at h
    have hm : d ∉ ds := by simpa using h.1.2
    have mem : ∀ k, k < ds.length → ds.getD k 0 ∈ ds := fun k hk => by rw [List.getD_eq_getElem?_getD, List.getElem?_eq_getElem hk]; exact List.getElem_mem hk
    cases i with
    | zero =>
      cases j with
      | zero => exact absurd rfl hne
      | succ j =>
        intro e
        have e' : d = ds.getD j 0 := by simpa using e
        exact hm (e' ▸ mem j (by simpa using hj))
    | succ i =>
      cases j with
      | zero =>
        intro e
        have e' : ds.getD i 0 = d := by simpa using e
        exact hm (e' ▸ mem i (by simpa using hi))
      | succ j =>
        have := dstsB_ne h.2 (i := i) (j := j) (by simpa using hi) (by simpa using hj) (by omega)
        simpa using this
theorem steps_of_V {A : Act} {ds : List Nat} {V : Nat → Value → World → Prop} {W0 : World} {all : List Oper} (hds : dstsB ds all = true) (hV : ∀ i v W W', V i v W → Below W.heap.size W W' → V i v W') :
    ∀ {os : List Oper} {i : Nat}, (∀ j o, os[j]? = some o → all[i + j]? = some o) → StepsV P md Q A ds V W0 i os →
      Steps P md Q A ds (fun on X W => (∀ k, k < all.length → on k → V k (X (ds.getD k 0)) W) ∧ (∀ k, on k → k < all.length) ∧ Below W0.heap.size W0 W) i os
  | [], _, _, _ => trivial
  | o :: os, i, hall, h => by
    have hoi := hall 0 o rfl
    rw [Nat.add_zero] at hoi
    have hil : i < all.length := (List.getElem?_eq_some_iff.1 hoi).1
    obtain ⟨hd1, hd2⟩ := dstsB_at hds hoi
    refine ⟨?_, steps_of_V hds hV (fun j o' e => by have := hall (j + 1) o' (by simpa using e); rwa [show i + 1 + j = i + (j + 1) by omega]) h.2⟩
    rintro on X W ⟨h1, h2, h3⟩ hn hk
    refine Oper.wp_mono ?_ (h.1 X W h3 (fun k hk' => h1 k (h2 k (hk k hk')) (hk k hk')))
    rintro a' W' ⟨v, rfl, hv, hb⟩
    refine ⟨upd X (ds.getD i 0) v, by rw [hd1]; exact puts_put v hd2, ?_, ?_, h3.trans (hb.mono h3.size)⟩
    · rintro k hkl (rfl | hk')
      · simpa [upd] using hv
      · have hne : k ≠ i := fun e => hn (e ▸ hk')
        have := dstsB_ne hds (by rw [dstsB_len hds]; exact hkl) (by rw [dstsB_len hds]; exact hil) hne
        simp only [upd, this, if_false]
        exact hV _ _ _ _ (h1 k hkl hk') hb
    · rintro k (rfl | hk')
      · exact hil
      · exact h2 k hk'
/-- The whole region. -/
theorem wp_region_V {id : Nat} {ops : List Oper} {a : Act} {w : World} (ds : List Nat) (V : Nat → Value → World → Prop) (hm : P.follows .mixedOrders = true) (hp : plainB .any ops = true) (hds : dstsB ds ops = true)
    (hV : ∀ i v W W', V i v W → Below W.heap.size W W' → V i v W') (hst : StepsV P .any Q a ds V w 0 ops)
    (hdone : ∀ X W, Below w.heap.size w W → (∀ i, i < ops.length → V i (X (ds.getD i 0)) W) → Q .normal (puts a X ds) W) : (Code.region id ops.toArray true).wp P Q a w := by
  refine wp_region_J ds _ hm hp ?_ (steps_of_V hds hV (all := ops) (i := 0) (fun j o e => by rwa [Nat.zero_add]) hst) ?_
  · exact ⟨fun _ _ h => h.elim, fun _ h => h.elim, ⟨rfl, rfl, rfl, Nat.le_refl _, fun _ _ => rfl⟩⟩
  · rintro on X W ⟨h1, _, h3⟩ hall
    exact hdone X W h3 (fun i hi => h1 i hi (hall i hi))
theorem v_value {o : Oper} {a : Act} {w : World} {v : Value} {V : Value → World → Prop} (h : (execOp a.eval o).run P w = .ok (.value v) w) (hV : V v w) : o.wp P a w (fun a' W' => ∃ v, a' = a.put o.dst v ∧ V v W' ∧ Below w.heap.size w W') Q :=
  op_value h ⟨v, rfl, hV, Below.refl _ _⟩
theorem v_call {o : Oper} {a : Act} {w : World} {f : FuncId} {vs : Array Value} {V : Value → World → Prop} (h : (execOp a.eval o).run P w = .ok (.enter f vs) w) (hK : Calls P f vs w fun r w' => ∃ v, r = .returned v ∧ V v w' ∧ Below w.heap.size w w') : o.wp P a w (fun a' W' => ∃ v, a' = a.put o.dst v ∧ V v W' ∧ Below w.heap.size w W') Q :=
  op_call h (hK.mono fun _ _ ⟨v, e, hv, hb⟩ => ⟨v, e, v, rfl, hv, hb⟩)
end
end Go.Proofs.YthkfbaoeimjgaaaGreat
end

section
/- Which programs are known, their combiners, the checks of parameters. -/
namespace Go.Proofs.YthkfbaoeimjgaaaGreat
open Go.RowKit
abbrev isBfs (s : ByteArray) : Bool := s.toList == [98, 102, 115]
abbrev isCc (s : ByteArray) : Bool := s.toList == [99, 99]
abbrev isDeg (s : ByteArray) : Bool := s.toList == [100, 101, 103, 114, 101, 101]
abbrev isPr (s : ByteArray) : Bool := s.toList == [112, 97, 103, 101, 114, 97, 110, 107]
abbrev isSp (s : ByteArray) : Bool := s.toList == [115, 115, 115, 112]
abbrev isKc (s : ByteArray) : Bool := s.toList == [107, 99, 111, 114, 101]
/-- Numbers lie in memory from an address on. -/
def IsAt (w : World) (ao : Option Addr) (L : List Int) : Prop := 0 < L.length → ∃ b off, ao = some ⟨b, off, none⟩ ∧ ∀ j (h : j < L.length), w.cell? ⟨b, off + j, none⟩ = some (.int .i64 L[j])
theorem IsAt.new {w w' : World} {ao : Option Addr} {L : List Int} (h : IsAt w ao L) (hb : Below w.heap.size w w') : IsAt w' ao L := fun hl => by
  obtain ⟨b, off, e, hc⟩ := h hl
  exact ⟨b, off, e, fun j hj => (hb.cell (p := ⟨b, off + j, none⟩) (lt_cell (hc j hj))).trans (hc j hj)⟩
def noneN (L : List Int) : Int := if L.length = 0 then 0 else 71
def turnN (L : List Int) : Int := if L.length = 1 ∧ 0 ≤ L.getD 0 0 ∧ L.getD 0 0 ≤ 100 then 0 else 71
theorem IsAt.one {w : World} {ao : Option Addr} {L : List Int} (h : IsAt w ao L) (h1 : L.length = 1) : ∃ b off, ao = some ⟨b, off, none⟩ ∧ w.cell? ⟨b, off, none⟩ = some (.int .i64 (L.getD 0 0)) := by
  obtain ⟨b, off, e, hc⟩ := h (by omega)
  refine ⟨b, off, e, ?_⟩
  have := hc 0 (by omega)
  rw [Nat.add_zero] at this
  rw [this]
  match L, h1 with
  | [x], _ => rfl
set_option maxRecDepth 100000 in
theorem none_any {ao : Option Addr} (L : List Int) (n cap : Nat) (w : World) (hn : n = L.length) : Calls Tryz.prog 156 #[.slice ao n cap] w fun r w' => r = .returned (.int .i64 (noneN L)) ∧ w' = w := by
  unfold noneN
  rw [← hn]
  by_cases h : n = 0
  · subst h
    clear hn
    go_enter Tryz.func156, Tryz.ntmps156
    go_wp2
    go_ret
    exact ⟨by simp, rfl⟩
  · clear hn
    go_enter Tryz.func156, Tryz.ntmps156
    go_wp2
    all_goals first | (exfalso; omega) | (go_ret; exact ⟨by simp, rfl⟩)
set_option maxRecDepth 100000 in
theorem turns_any {ao : Option Addr} (L : List Int) (n cap : Nat) (w : World) (hn : n = L.length) (hL : IsAt w ao L) : Calls Tryz.prog 154 #[.slice ao n cap] w fun r w' => r = .returned (.int .i64 (turnN L)) ∧ w' = w := by
  by_cases h1 : n = 1
  · obtain ⟨b, off, rfl, hc⟩ := hL.one (by omega)
    have HT : Hid (turnN L = if 0 ≤ L.getD 0 0 ∧ L.getD 0 0 ≤ 100 then 0 else 71) := by
      show _ = _
      unfold turnN
      have : L.length = 1 := by omega
      simp [this]
    generalize L.getD 0 0 = x at hc HT
    subst h1
    rw [HT.out]
    clear hn hL HT
    go_enter Tryz.func154, Tryz.ntmps154
    by_cases g0 : x < 0
    · go_wp2
      all_goals first | (exfalso; omega) | (go_ret; exact ⟨by first | rfl | (rw [if_neg (by omega)]; rfl), rfl⟩)
    · by_cases g1 : 100 < x
      · go_wp2
        all_goals first | (exfalso; omega) | (go_ret; exact ⟨by first | rfl | (rw [if_neg (by omega)]; rfl), rfl⟩)
      · go_wp2
        all_goals first | (exfalso; omega) | (go_ret; exact ⟨by first | rfl | (rw [if_pos (by omega)]; rfl), rfl⟩)
  · have HT : Hid (turnN L = 71) := by
      show _ = _
      unfold turnN
      rw [if_neg (by omega)]
    rw [HT.out]
    have hb : ((n : Int) != 1) = true := by simp; omega
    clear hn hL HT
    go_enter Tryz.func154, Tryz.ntmps154
    go_wp2
    all_goals first | (exfalso; omega) | (go_ret; exact ⟨rfl, rfl⟩)
end Go.Proofs.YthkfbaoeimjgaaaGreat
end

section
/- Region 3 of Source: the vertex is looked for. -/
namespace Go.Proofs.YthkfbaoeimjgaaaGreat
open Go.RowKit
theorem kc_new {w w' : World} {P : Nat → Prop} {ao : Option Addr} {G : List Vx} (h : VxAt w P ao G) (hb : Below w.heap.size w w') : VxAt w' P ao G := h.kept (Fr.ofBelow hb (fun _ => False)) (fun _ _ hp => ⟨fun h => h, hp⟩)
theorem kc_lt {w : World} {P : Nat → Prop} {ao : Option Addr} {G : List Vx} (h : VxAt w P ao G) : VxAt w (fun k => k < w.heap.size) ao G := h.kept (Fr.refl _ (fun _ => False)) (fun _ hk _ => ⟨fun h => h, hk⟩)
set_option maxRecDepth 100000 in
set_option maxHeartbeats 1000000 in
theorem source_r3 {W0 : World} {A : Act} {bx b off n cap pc : Nat} {ao : Option Addr} {P : Nat → Prop} {G : List Vx} {x : Int} {fb : Bool} {K : Act → World → Prop} {Q' : Exit → Act → World → Prop} (hsz : A.tmps.size = 20) (hA2 : A.eval (.tmp 2) = .pointer (some ⟨bx, 0, none⟩)) (hA1 : A.eval (.tmp 1) = .slice (some ⟨b, off, none⟩) 1 pc) (hB : W0.cell? ⟨bx, 0, none⟩ = some (.slice ao n cap)) (hc : W0.cell? ⟨b, off, none⟩ = some (.int .i64 x)) (hn : n = G.length) (hG : VxAt W0 P ao G) (hl : G.length ≤ 256) (hr : Rise (ids G)) (hfb : foundB (ids G) x = fb)
    (HK : ∀ X W, Below W0.heap.size W0 W → X 6 = .bool fb → K (puts A X [11, 12, 13, 14, 15, 10, 16, 17, 5, 6]) W) :
    Code.wp Tryz.prog ((Tryz.f196.body.bind (regionJ 3)).getD .skip) (Exit.then K Q') A W0 := by
  obtain ⟨ds, hds⟩ : ∃ ds, [11, 12, 13, 14, 15, 10, 16, 17, 5, 6] = ds := ⟨_, rfl⟩
  have hin : ∀ {X : Nat → Value} {k : Nat}, k ∈ [11, 12, 13, 14, 15, 10, 16, 17, 5, 6] → (puts A X ds).eval (.tmp k) = X k := fun hk => by rw [← hds]; exact eval_in hk (by rw [hsz]; revert hk; simp only [List.mem_cons, List.not_mem_nil, or_false]; omega)
  have hout : ∀ {X : Nat → Value} {k : Nat}, k ∉ [11, 12, 13, 14, 15, 10, 16, 17, 5, 6] → (puts A X ds).eval (.tmp k) = A.eval (.tmp k) := fun hk => by rw [← hds]; exact eval_out hk
  have g0 : ds.getD 0 0 = 11 := by rw [← hds]; rfl
  have g1 : ds.getD 1 0 = 12 := by rw [← hds]; rfl
  have g2 : ds.getD 2 0 = 13 := by rw [← hds]; rfl
  have g3 : ds.getD 3 0 = 14 := by rw [← hds]; rfl
  have g4 : ds.getD 4 0 = 15 := by rw [← hds]; rfl
  have g5 : ds.getD 5 0 = 10 := by rw [← hds]; rfl
  have g6 : ds.getD 6 0 = 16 := by rw [← hds]; rfl
  have g7 : ds.getD 7 0 = 17 := by rw [← hds]; rfl
  have g8 : ds.getD 8 0 = 5 := by rw [← hds]; rfl
  have g9 : ds.getD 9 0 = 6 := by rw [← hds]; rfl
  obtain ⟨V, hV, e0, e1, e2, e3, e4, e5, e6, e7, e8, e9⟩ : ∃ V : Nat → Value → World → Prop, (∀ i v W W', V i v W → Below W.heap.size W W' → V i v W') ∧ (∀ v W, V 0 v W = (v = .agg #[.slice ao n cap])) ∧ (∀ v W, V 1 v W = (v = .slice (some ⟨b, off, none⟩) 1 pc)) ∧ (∀ v W, V 2 v W = (v = .pointer (some ⟨b, off, none⟩))) ∧ (∀ v W, V 3 v W = (v = .int .i64 x)) ∧ (∀ v W, V 4 v W = (v = .tuple #[.int .i64 (findN (ids G) x), .bool fb])) ∧ (∀ v W, V 5 v W = (v = .tuple #[.int .i64 (findN (ids G) x), .bool fb])) ∧ (∀ v W, V 6 v W = (v = .int .i64 (findN (ids G) x))) ∧ (∀ v W, V 7 v W = (v = .bool fb)) ∧ (∀ v W, V 8 v W = (v = .int .i64 (findN (ids G) x))) ∧ (∀ v W, V 9 v W = (v = .bool fb)) := by
    refine ⟨fun i v W => match i with
      | 0 => v = .agg #[.slice ao n cap]
      | 1 => v = .slice (some ⟨b, off, none⟩) 1 pc
      | 2 => v = .pointer (some ⟨b, off, none⟩)
      | 3 => v = .int .i64 x
      | 4 => v = .tuple #[.int .i64 (findN (ids G) x), .bool fb]
      | 5 => v = .tuple #[.int .i64 (findN (ids G) x), .bool fb]
      | 6 => v = .int .i64 (findN (ids G) x)
      | 7 => v = .bool fb
      | 8 => v = .int .i64 (findN (ids G) x)
      | 9 => v = .bool fb
      | _ => True, ?_, fun _ _ => rfl, fun _ _ => rfl, fun _ _ => rfl, fun _ _ => rfl, fun _ _ => rfl, fun _ _ => rfl, fun _ _ => rfl, fun _ _ => rfl, fun _ _ => rfl, fun _ _ => rfl⟩
    intro i v W W' h hb
    match i, h with
    | 0, h => exact h
    | 1, h => exact h
    | 2, h => exact h
    | 3, h => exact h
    | 4, h => exact h
    | 5, h => exact h
    | 6, h => exact h
    | 7, h => exact h
    | 8, h => exact h
    | 9, h => exact h
    | _ + 10, _ => trivial
  conv => arg 2; whnf
  refine wp_region_V ds V (by kernel_rfl) (by kernel_rfl) (by rw [← hds]; kernel_rfl) hV ?_ ?_
  · refine ⟨?_, ?_, ?_, ?_, ?_, ?_, ?_, ?_, ?_, ?_, trivial⟩
    all_goals intro X W hb hd
    · have h0 := hout (X := X) (k := 2) (by decide)
      rw [hA2] at h0
      have c0 := (hb.cell (p := ⟨bx, 0, none⟩) (lt_cell hB)).trans hB
      refine v_value (V := V 0) (v := .agg #[.slice ao n cap]) ?_ (by rw [e0])
      generalize (puts A X ds).eval = ρ at h0 ⊢
      go_simp
    · have h0 := hout (X := X) (k := 1) (by decide)
      rw [hA1] at h0
      refine v_value (V := V 1) (v := .slice (some ⟨b, off, none⟩) 1 pc) ?_ (by rw [e1])
      generalize (puts A X ds).eval = ρ at h0 ⊢
      go_simp
    · have d0 := hd 1 (by kernel_rfl)
      rw [e1, g1] at d0
      have h0 := (hin (X := X) (k := 12) (by decide)).trans d0
      have h1 : (puts A X ds).eval (.const (.int .i64 0)) = .int .i64 0 := rfl
      refine v_value (V := V 2) (v := .pointer (some ⟨b, off, none⟩)) ?_ (by rw [e2])
      generalize (puts A X ds).eval = ρ at h0 h1 ⊢
      go_simp
    · have d0 := hd 2 (by kernel_rfl)
      rw [e2, g2] at d0
      have h0 := (hin (X := X) (k := 13) (by decide)).trans d0
      have c0 := (hb.cell (p := ⟨b, off, none⟩) (lt_cell hc)).trans hc
      refine v_value (V := V 3) (v := .int .i64 x) ?_ (by rw [e3])
      generalize (puts A X ds).eval = ρ at h0 ⊢
      go_simp
    · have d0 := hd 0 (by kernel_rfl)
      rw [e0, g0] at d0
      have h0 := (hin (X := X) (k := 11) (by decide)).trans d0
      have d1 := hd 3 (by kernel_rfl)
      rw [e3, g3] at d1
      have h1 := (hin (X := X) (k := 14) (by decide)).trans d1
      have hf : (puts A X ds).eval (.func 195) = .func (.func 195) #[] #[] := rfl
      refine v_call (V := V 4) (f := 195) (vs := #[.agg #[.slice ao n cap], .int .i64 x]) ?_ ?_
      · generalize (puts A X ds).eval = ρ at h0 h1 hf ⊢
        go_simp
      · subst hn
        refine (find_any cap x (kc_lt (kc_new hG hb)) hl hr).mono ?_
        rintro r W' ⟨rfl, hb'⟩
        exact ⟨_, rfl, by rw [e4, hfb], hb'⟩
    · have d0 := hd 4 (by kernel_rfl)
      rw [e4, g4] at d0
      have h0 := (hin (X := X) (k := 15) (by decide)).trans d0
      refine v_value (V := V 5) (v := .tuple #[.int .i64 (findN (ids G) x), .bool fb]) ?_ (by rw [e5])
      generalize (puts A X ds).eval = ρ at h0 ⊢
      go_simp
    · have d0 := hd 5 (by kernel_rfl)
      rw [e5, g5] at d0
      have h0 := (hin (X := X) (k := 10) (by decide)).trans d0
      refine v_value (V := V 6) (v := .int .i64 (findN (ids G) x)) ?_ (by rw [e6])
      generalize (puts A X ds).eval = ρ at h0 ⊢
      go_simp
    · have d0 := hd 5 (by kernel_rfl)
      rw [e5, g5] at d0
      have h0 := (hin (X := X) (k := 10) (by decide)).trans d0
      refine v_value (V := V 7) (v := .bool fb) ?_ (by rw [e7])
      generalize (puts A X ds).eval = ρ at h0 ⊢
      go_simp
    · have d0 := hd 6 (by kernel_rfl)
      rw [e6, g6] at d0
      have h0 := (hin (X := X) (k := 16) (by decide)).trans d0
      refine v_value (V := V 8) (v := .int .i64 (findN (ids G) x)) ?_ (by rw [e8])
      generalize (puts A X ds).eval = ρ at h0 ⊢
      go_simp
    · have d0 := hd 7 (by kernel_rfl)
      rw [e7, g7] at d0
      have h0 := (hin (X := X) (k := 17) (by decide)).trans d0
      refine v_value (V := V 9) (v := .bool fb) ?_ (by rw [e9])
      generalize (puts A X ds).eval = ρ at h0 ⊢
      go_simp
  · intro X W hb hall
    have r0 := hall 0 (by decide)
    rw [e0, g0] at r0
    have r1 := hall 1 (by decide)
    rw [e1, g1] at r1
    have r2 := hall 2 (by decide)
    rw [e2, g2] at r2
    have r3 := hall 3 (by decide)
    rw [e3, g3] at r3
    have r4 := hall 4 (by decide)
    rw [e4, g4] at r4
    have r5 := hall 5 (by decide)
    rw [e5, g5] at r5
    have r6 := hall 6 (by decide)
    rw [e6, g6] at r6
    have r7 := hall 7 (by decide)
    rw [e7, g7] at r7
    have r8 := hall 8 (by decide)
    rw [e8, g8] at r8
    have r9 := hall 9 (by decide)
    rw [e9, g9] at r9
    have := HK X W hb (by first | assumption | exact ⟨by assumption, by assumption⟩ | exact ⟨by assumption, by assumption, by assumption⟩ | simp_all)
    rw [hds] at this
    exact this
/-- Is the only parameter a vertex? -/
def srcN (G : List Vx) (L : List Int) : Int := if L.length = 1 ∧ foundB (ids G) (L.getD 0 0) = true then 0 else 71
set_option maxRecDepth 100000 in
set_option maxHeartbeats 1000000 in
theorem source_any {w : World} {P : Nat → Prop} {ao po : Option Addr} (G : List Vx) (L : List Int) (n cap pn pc : Nat) (hn : n = G.length) (hp : pn = L.length) (hG : VxAt w P ao G) (hL : IsAt w po L) (hl : G.length ≤ 256) (hr : Rise (ids G)) :
    Calls Tryz.prog 196 #[.agg #[.slice ao n cap], .slice po pn pc] w fun r w' => r = .returned (.int .i64 (srcN G L)) ∧ Below w.heap.size w w' := by
  obtain ⟨W0, hW0⟩ : ∃ W0, w.alloc (.cells #[.slice ao n cap] 24) = W0 := ⟨_, rfl⟩
  have hB0 : Below w.heap.size w W0 := by rw [← hW0]; exact (Below.refl _ _).alloc (Nat.le_refl _) _
  have hcg : W0.cell? ⟨w.heap.size, 0, none⟩ = some (.slice ao n cap) := by
    have hh : W0.heap[w.heap.size]? = some (.cells #[.slice ao n cap] 24 (0, 0)) := by rw [← hW0]; exact heap_alloc_new _ _
    simp [World.cell?, hh]
  by_cases h1 : pn = 1
  · obtain ⟨b, off, rfl, hc⟩ := hL.one (by omega)
    have HT : Hid (srcN G L = if foundB (ids G) (L.getD 0 0) = true then 0 else 71) := by
      show _ = _
      unfold srcN
      have : L.length = 1 := by omega
      simp [this]
    have HC : Hid (W0.cell? ⟨b, off, none⟩ = some (.int .i64 (L.getD 0 0))) := (hB0.cell (p := ⟨b, off, none⟩) (lt_cell hc)).trans hc
    have HG : Hid _ := kc_new hG hB0
    have HCg : Hid _ := hcg
    have HB0 : Hid _ := hB0
    have HN : Hid _ := hn
    generalize L.getD 0 0 = x at HC HT
    subst h1
    rw [HT.out]
    obtain ⟨fb, hfb⟩ : ∃ fb, foundB (ids G) x = fb := ⟨_, rfl⟩
    have HF : Hid _ := hfb
    rw [hfb]
    clear hn hp hL hG hc HT hcg hB0 hfb
    go_enter Tryz.func196, Tryz.ntmps196
    go_upto_region 3 with fail
    refine source_r3 (bx := w.heap.size) (b := b) (off := off) (n := n) (cap := cap) (pc := pc) (ao := ao) (P := P) (G := G) (x := x) (fb := fb) rfl rfl rfl HCg.out HC.out HN.out HG.out hl hr HF.out ?_
    intro X W hb h6
    simp only [puts]
    rw [h6]
    generalize X 5 = x5
    generalize X 10 = x10
    generalize X 11 = x11
    generalize X 12 = x12
    generalize X 13 = x13
    generalize X 14 = x14
    generalize X 15 = x15
    generalize X 16 = x16
    generalize X 17 = x17
    have HB1 : Hid _ := HB0.out.trans (hb.mono HB0.out.size)
    clear hb h6 X
    cases fb
    · go_wp2
      go_ret
      exact ⟨by simp, HB1.out⟩
    · go_wp2
      go_ret
      exact ⟨by simp, HB1.out⟩
  · have HT : Hid (srcN G L = 71) := by
      show _ = _
      unfold srcN
      rw [if_neg (by omega)]
    rw [HT.out]
    have hb : ((pn : Int) != 1) = true := by simp; omega
    have HB0 : Hid _ := hB0
    clear hn hp hL hG HT hcg hB0
    go_enter Tryz.func196, Tryz.ntmps196
    go_wp2
    all_goals first | (exfalso; omega) | (go_ret; exact ⟨rfl, HB0.out⟩)
end Go.Proofs.YthkfbaoeimjgaaaGreat
end

section
/- What Ref returns: the same graph, in new memory. -/
namespace Go.Proofs.YthkfbaoeimjgaaaGreat
open Go.RowKit

/-- One append onto a row of the call's own, as one step of a region that draws. -/
theorem step_append_own {P : Program} {ops : Array Oper} {o : Oper} {a : Act} {w : World} {K : Act → World → Prop} {Q : Exit → Act → World → Prop} {E : Prop}
    (hg : o.guard = none) (s x : Operand) (t : TypeId) (hop : o.op = .call { callee := .builtin .append, args := #[s, x], argTypes := #[t, t] })
    (base : Nat) (e : TypeId) (i : TypeInfo) (z : Value) (size bytes : Nat) (ht : P.underlying t = some (.slice e)) (hi : P.info? e = some i) (hz : i.zero = some z)
    (hsize : i.size = size) (hby : i.bytes = bytes) (hzs : z.cells.size = size) (hsz : 0 < size)
    (v : Value) (n : Nat) (xs : List Value) (hs : a.eval s = v) (hown : w.ownsRow base e size v n xs)
    (ad : Addr) (m c : Nat) (news : List Value) (hx : a.eval x = .slice (some ad) m c) (hl : news.length = m * size) (hnews : ∀ j u, news[j]? = some u → w.cell? (ad.add j) = some u) (h1 : ∀ u ∈ news, u.oneCell' = true)
    (h63 : n + m ≤ maxLen) (hbytes : (n + m) * bytes ≤ 140737488355328) (hbase : base ≤ w.heap.size)
    (h : ∀ v' w', w'.ownsRow base e size v' (n + m) (xs ++ news) → w.grownBy w' v.ownBlock → (v'.ownBlock = v.ownBlock ∨ v'.ownBlock = some w.heap.size) → K (a.put o.dst v') w') :
    if Region.wanted o (yielded ops a.tmps) = true then Oper.wp P o a w K Q else E := by
  have hw : Region.wanted o (yielded ops a.tmps) = true := by simp [Region.wanted, hg]
  rw [if_pos hw]
  obtain ⟨v', w', hr, h2, h3, _, h5⟩ := run_append_own_at (P := P) w base t o.type e i z size bytes ht hi hz hsize hby hzs hsz v n xs hown ad m c news hl hnews h1 h63 hbytes hbase
  unfold Oper.wp execOp
  simp only [hop, resolve, invoke, builtin, Sem.run_bind, Sem.run_pure, Result.andThen_ok, List.map_toArray, List.map_cons, List.map_nil, hs, hx, hr]
  exact h v' w' h2 h3 h5
theorem own_new {w w' : World} {base : Nat} {e : TypeId} {size : Nat} {v : Value} {n : Nat} {xs : List Value} (h : w.ownsRow base e size v n xs) (hb : Below w.heap.size w w') : w'.ownsRow base e size v n xs := by
  refine ⟨h.1, ?_⟩
  rcases h.2 with hn | ⟨g, cap, cur, rfl, hbs, hgg, rest⟩
  · exact Or.inl hn
  · exact Or.inr ⟨g, cap, cur, rfl, hbs, (hb.block g (lt_of_block hgg)).trans hgg, rest⟩
theorem VRow.new {w w' : World} {base : Nat} {t : TypeId} {sv : Value} {G : List Vx} (h : VRow w base t sv G) (hb : Below w.heap.size w w') : VRow w' base t sv G := by
  obtain ⟨M, hl, ho, he⟩ := h.row
  exact ⟨M, hl, own_new ho hb, fun j h h' => (he j h h').new hb⟩
theorem own_empty {w : World} {base : Nat} {t : TypeId} {size : Nat} (hb : base ≤ w.heap.size) : (w.alloc (.cells #[] t)).ownsRow base t size (.slice (some ⟨w.heap.size, 0, none⟩) 0 0) 0 [] := World.ownsRow_made w #[] 0 hb (by decide) (by simp)
theorem VRow.empty {w : World} {base : Nat} {t : TypeId} (hb : base ≤ w.heap.size) : VRow (w.alloc (.cells #[] t)) base t (.slice (some ⟨w.heap.size, 0, none⟩) 0 0) [] := ⟨[], rfl, own_empty hb, fun j h => absurd h (by simp)⟩
/-- Between two edges of a vertex. -/
structure RI (wo wx : World) (bv bx : Nat) (y : Vx) (eo : Option Addr) (ec : Nat) (ev : Value) (L : List Ed) : Prop where
  low : Below wo.heap.size wo wx
  vb : wx.heap[bv]? = some (.cells #[.int .i64 y.id, .int .i64 y.val, .slice eo y.es.length ec] 114 (0, 0))
  xb : wx.heap[bx]? = some (.cells #[.int .i64 y.id, .int .i64 y.val, ev] 193 (0, 0))
  own : wx.ownsRow (bx + 1) 195 2 ev L.length (ecs L)
  h1 : wo.heap.size ≤ bv
  h2 : bv < bx
section
variable {wo wx : World} {bv bx : Nat} {y : Vx} {eo : Option Addr} {ec : Nat} {ev : Value} {L : List Ed}
theorem RI.new (h : RI wo wx bv bx y eo ec ev L) {w1 : World} (hb : Below wx.heap.size wx w1) : RI wo w1 bv bx y eo ec ev L :=
  ⟨h.low.trans (hb.mono h.low.size), (hb.block _ (lt_of_block h.vb)).trans h.vb, (hb.block _ (lt_of_block h.xb)).trans h.xb, own_new h.own hb, h.h1, h.h2⟩
theorem RI.app (h : RI wo wx bv bx y eo ec ev L) {w1 : World} {ev' : Value} {x z : Int} (ho : w1.ownsRow (bx + 1) 195 2 ev' (L.length + 1) (ecs L ++ [.int .i64 x, .int .i64 z])) (hg : wx.grownBy w1 ev.ownBlock) : RI wo (w1.setCell ⟨bx, 2, none⟩ ev') bv bx y eo ec ev' (L ++ [⟨x, z⟩]) := by
  have h1 := h.h1
  have h2 := h.h2
  have f1 : Fr wx w1 (fun k => ev.ownBlock = some k) := Fr.grown hg (fun k hk => hk)
  have f2 : Fr w1 (w1.setCell ⟨bx, 2, none⟩ ev') (fun k => k = bx) := Fr.setCell (S := fun k => k = bx) w1 ⟨bx, 2, none⟩ ev' rfl
  have f : Fr wx (w1.setCell ⟨bx, 2, none⟩ ev') (fun k => bx ≤ k) := (f1.mono (T := fun k => bx ≤ k) (fun k _ hk => by have := (h.own.lt k hk).1; omega)).trans f2 (fun k _ hk => Nat.le_of_eq hk.symm)
  have hxb := (f1.block bx (lt_of_block h.xb) (fun hk => by have := (h.own.lt _ hk).1; omega)).trans h.xb
  refine ⟨h.low.trans (f.below (B := wo.heap.size) h.low.size (fun k hk => by omega)), (f.block bv (lt_of_block h.vb) (by omega)).trans h.vb, set3_2 hxb _, ?_, h.h1, h.h2⟩
  rw [ecs_snoc, List.length_append]
  exact ownsRow_setCell_other ho (fun e => Nat.lt_irrefl bx (ho.lt bx e).1) _
theorem RI.grew (h : RI wo wx bv bx y eo ec ev L) {w1 : World} (hg : wx.grownBy w1 ev.ownBlock) : w1.cell? ⟨bx, 2, none⟩ = some ev ∧ w1.frozen? ⟨bx, 2, none⟩ = false := by
  have f1 : Fr wx w1 (fun k => ev.ownBlock = some k) := Fr.grown hg (fun k hk => hk)
  have hxb := (f1.block bx (lt_of_block h.xb) (fun hk => by have := (h.own.lt _ hk).1; omega)).trans h.xb
  exact ⟨(box3 hxb).2.2, froz hxb⟩
theorem RI.facts (h : RI wo wx bv bx y eo ec ev L) : wx.cell? ⟨bv, 0, none⟩ = some (.int .i64 y.id) ∧ wx.cell? ⟨bv, 1, none⟩ = some (.int .i64 y.val) ∧ wx.cell? ⟨bv, 2, none⟩ = some (.slice eo y.es.length ec) ∧ wx.cell? ⟨bx, 0, none⟩ = some (.int .i64 y.id) ∧ wx.cell? ⟨bx, 1, none⟩ = some (.int .i64 y.val) ∧ wx.cell? ⟨bx, 2, none⟩ = some ev ∧ wx.frozen? ⟨bx, 2, none⟩ = false ∧ bv < wx.heap.size ∧ bx < wx.heap.size := by
  obtain ⟨a0, a1, a2⟩ := box3 h.vb
  obtain ⟨b0, b1, b2⟩ := box3 h.xb
  exact ⟨a0, a1, a2, b0, b1, b2, froz h.xb, lt_of_block h.vb, lt_of_block h.xb⟩
end

end Go.Proofs.YthkfbaoeimjgaaaGreat
end
