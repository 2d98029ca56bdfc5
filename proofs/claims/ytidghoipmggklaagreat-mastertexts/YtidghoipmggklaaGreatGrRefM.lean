import Derived.Test.YtidghoipmggklaaGreatGrWalk2M
import Derived.Test.YtidghoipmggklaaGreatGrPutM
import Derived.Test.YtidghoipmggklaaGreatRdRoundM
import Derived.OrdersHeld
import Derived.Deep.RegionHeld
import Derived.Deep.RegionWith
import Derived.OrdersIn
import Derived.Below
import Derived.Test.YtidghoipmggklaaGreatGrDataM
import Derived.Test.YtidghoipmggklaaGreatProg
import Derived.WalkKit
import Derived.OwnWalk
import Derived.Deep.Cut
import Derived.Deep.DeepCutAuto
import Derived.Deep.RegionLaw
import Derived.BigRegion
section
/- What Same returns of two graphs. -/
namespace Go.Proofs.YtidghoipmggklaaGreat
open Go.RowKit

theorem bel_drewN {B : Nat} {w wr : World} (h : Below B w wr) (n : Nat) : Below B w (wr.drewN n) := by
  induction n with
  | zero => exact h
  | succ n ih => exact ih.drew
end Go.Proofs.YtidghoipmggklaaGreat
end

section
/- What Decode returns, and what awake returns. -/
namespace Go.Proofs.YtidghoipmggklaaGreat
open Go.RowKit
theorem rdGs_to {s : ByteArray} {a : Nat} {e : Int} (ha : a ≤ s.size) : (rdGs s a e).2.1 ≤ s.size ∧ (rdGs s a e).1.length ≤ 256 ∧ ∀ x ∈ (rdGs s a e).1, x.ok := by
  obtain ⟨⟨n, a1, e1⟩, h1⟩ : ∃ q, rdCount s a e (256 : Nat) = q := ⟨_, rfl⟩
  have g1 := rdCount_to ha h1
  have g2 := rdVs_to s n a1 e1 g1.1
  have hq : rdGs s a e = rdVs s n a1 e1 := by unfold rdGs; rw [show (256 : Int) = ((256 : Nat) : Int) from rfl, h1]
  rw [hq]
  exact ⟨g2.1, Nat.le_trans g2.2.1 g1.2.1, g2.2.2⟩
theorem rdG_to {s : ByteArray} {a : Nat} {e : Int} (ha : a ≤ s.size) : (rdG s a e).2.1 ≤ s.size ∧ (rdG s a e).1.length ≤ 256 ∧ ∀ x ∈ (rdG s a e).1, x.ok := by
  have g := rdGs_to (e := e) ha
  unfold rdG
  dsimp only
  split
  · split
    · exact g
    · exact ⟨g.1, Nat.zero_le _, fun x hx => by cases hx⟩
  · exact ⟨g.1, Nat.zero_le _, fun x hx => by cases hx⟩
theorem take_to {w : World} {p : Nat} {s : ByteArray} {a x : Nat} {e y : Int} {G : List Vx} (h : Rd w p s a e) (hs : s.size ≤ maxLen) (ha : a ≤ s.size) (hq : rdG s a e = (G, x, y)) :
    Calls Tryz.prog 54 #[.pointer (some ⟨p, 0, none⟩)] w fun r w' => ∃ ao cap, r = .returned (.agg #[.slice ao G.length cap]) ∧ VxAt w' (fun k => w.heap.size ≤ k) ao G ∧ Rd w' p s x y ∧ Fr w w' (fun k => k = p) := by
  have := take_any h hs ha; rw [hq] at this; exact this
theorem rend_to {w : World} {p : Nat} {s : ByteArray} {a : Nat} {e z : Int} (h : Rd w p s a e) (hs : s.size ≤ maxLen) (ha : a ≤ s.size) (hz : rdEnd s a e = z) :
    Calls Tryz.prog 48 #[.pointer (some ⟨p, 0, none⟩)] w fun r w' => r = .returned (.int .i64 z) ∧ Rd w' p s a z ∧ Fr w w' (fun k => k = p) := by
  have := rend_any h hs ha; rw [hz] at this; exact this
end Go.Proofs.YtidghoipmggklaaGreat
end

section
/- Plain mathematics: a graph's bytes are read as it, and nothing but a graph's bytes is read as one. -/
namespace Go.Proofs.YtidghoipmggklaaGreat
open Go.RowKit
theorem rdEs_enc {s : ByteArray} : ∀ (L : List Ed) (a c : List UInt8), s.data.toList = a ++ (L.flatMap edB ++ c) → (∀ e ∈ L, e.ok) → rdEs s L.length a.length 0 = (L, (a ++ L.flatMap edB).length, 0) := by
  intro L
  induction L with
  | nil => intro a c _ _; simp [rdEs]
  | cons e L ih =>
    intro a c h hok
    have he := hok e (by simp)
    have h1 : s.data.toList = a ++ (sgB e.t ++ (sgB e.w ++ (L.flatMap edB ++ c))) := by rw [h]; simp [edB]
    have h2 : s.data.toList = (a ++ sgB e.t) ++ (sgB e.w ++ (L.flatMap edB ++ c)) := by rw [h1]; simp
    have h3 : s.data.toList = (a ++ sgB e.t ++ sgB e.w) ++ (L.flatMap edB ++ c) := by rw [h1]; simp
    have q1 := num_at h1 (fold_lt he.t)
    have q2 := num_at h2 (fold_lt he.w)
    rw [List.length_cons, rdEs_go q1 q2]
    have := ih (a ++ sgB e.t ++ sgB e.w) c h3 (fun x hx => hok x (by simp [hx]))
    rw [show (a ++ sgB e.t ++ numB (foldN e.w).toNat) = a ++ sgB e.t ++ sgB e.w from rfl, this, sg_back he.t, sg_back he.w]
    simp [edB]
theorem rdV_enc {s : ByteArray} {v : Vx} {a c : List UInt8} (h : s.data.toList = a ++ (vxB v ++ c)) (hok : v.ok) (hl : v.es.length ≤ 2048) : rdV s a.length 0 = (v, (a ++ vxB v).length, 0) := by
  have h1 : s.data.toList = a ++ (sgB v.id ++ (sgB v.val ++ (numB v.es.length ++ (v.es.flatMap edB ++ c)))) := by rw [h]; simp [vxB]
  have h2 : s.data.toList = (a ++ sgB v.id) ++ (sgB v.val ++ (numB v.es.length ++ (v.es.flatMap edB ++ c))) := by rw [h1]; simp
  have h3 : s.data.toList = (a ++ sgB v.id ++ sgB v.val) ++ (numB v.es.length ++ (v.es.flatMap edB ++ c)) := by rw [h1]; simp
  have h4 : s.data.toList = (a ++ sgB v.id ++ sgB v.val ++ numB v.es.length) ++ (v.es.flatMap edB ++ c) := by rw [h1]; simp
  have q1 := num_at h1 (fold_lt hok.id)
  have q2 := num_at h2 (fold_lt hok.val)
  have q3 := count_at (most := 2048) h3 hl (by decide)
  have q4 := rdEs_enc v.es _ c h4 hok.es
  unfold rdV
  simp only [q1]
  rw [show (a ++ numB (foldN v.id).toNat) = a ++ sgB v.id from rfl]
  simp only [q2]
  rw [show (a ++ sgB v.id ++ numB (foldN v.val).toNat) = a ++ sgB v.id ++ sgB v.val from rfl, show (2048 : Int) = ((2048 : Nat) : Int) from rfl]
  simp only [q3, q4, sg_back hok.id, sg_back hok.val]
  simp [vxB]
theorem rdVs_enc {s : ByteArray} : ∀ (G : List Vx) (a c : List UInt8), s.data.toList = a ++ (G.flatMap vxB ++ c) → (∀ v ∈ G, v.ok ∧ v.es.length ≤ 2048) → rdVs s G.length a.length 0 = (G, (a ++ G.flatMap vxB).length, 0) := by
  intro G
  induction G with
  | nil => intro a c _ _; simp [rdVs]
  | cons v G ih =>
    intro a c h hok
    have hv := hok v (by simp)
    have h1 : s.data.toList = a ++ (vxB v ++ (G.flatMap vxB ++ c)) := by rw [h]; simp
    have h2 : s.data.toList = (a ++ vxB v) ++ (G.flatMap vxB ++ c) := by rw [h1]; simp
    rw [List.length_cons, rdVs_go (rdV_enc h1 hv.1 hv.2), ih (a ++ vxB v) c h2 (fun x hx => hok x (by simp [hx]))]
    simp
theorem rdG_enc {s : ByteArray} {G : List Vx} {a c : List UInt8} (h : s.data.toList = a ++ (grB G ++ c)) (hok : ∀ v ∈ G, v.ok) (hc : chk G = 0) : rdG s a.length 0 = (G, (a ++ grB G).length, 0) := by
  have h1 : s.data.toList = a ++ (numB G.length ++ (G.flatMap vxB ++ c)) := by rw [h]; simp [grB]
  have h2 : s.data.toList = (a ++ numB G.length) ++ (G.flatMap vxB ++ c) := by rw [h1]; simp
  have hr := room_ok hc hok
  have q1 := count_at (most := 256) h1 (chk_ok hc).1 (by decide)
  have q2 := rdVs_enc G _ c h2 (fun v hv => ⟨hok v hv, hr.2 v hv⟩)
  have hg : rdGs s a.length 0 = (G, (a ++ grB G).length, 0) := by
    unfold rdGs
    rw [show (256 : Int) = ((256 : Nat) : Int) from rfl]
    simp only [q1, q2]
    simp [grB]
  exact rdG_ok hg hc
end Go.Proofs.YtidghoipmggklaaGreat
end

section
/- A region that draws its order, by what holds behind whatever has come up: one step an operation. -/
namespace Go.Proofs.YtidghoipmggklaaGreat
open Go
/-- The slots of a region laid over a frame. -/
def puts (A : Act) (X : Nat → Value) : List Nat → Act
  | [] => A
  | d :: ds => (puts A X ds).put (some d) (X d)
def upd (X : Nat → Value) (d : Nat) (v : Value) : Nat → Value := fun k => if k = d then v else X k
theorem puts_defers (A : Act) (X : Nat → Value) : ∀ ds, (puts A X ds).defers = A.defers
  | [] => rfl
  | _ :: ds => puts_defers A X ds
theorem puts_size (A : Act) (X : Nat → Value) : ∀ ds, (puts A X ds).tmps.size = A.tmps.size
  | [] => rfl
  | d :: ds => by show (Array.setIfInBounds _ _ _).size = _; rw [Array.size_setIfInBounds]; exact puts_size A X ds
theorem puts_at (A : Act) (X : Nat → Value) (k : Nat) : ∀ ds : List Nat, (puts A X ds).tmps[k]? = if k ∈ ds ∧ k < A.tmps.size then some (X k) else A.tmps[k]?
  | [] => by simp [puts]
  | d :: ds => by
    show (Array.setIfInBounds (puts A X ds).tmps d (X d))[k]? = _
    rw [Array.getElem?_setIfInBounds, puts_size, puts_at A X k ds]
    by_cases hk : d = k
    · subst hk
      by_cases hl : d < A.tmps.size
      · simp [hl]
      · simp [hl]
    · have : k ≠ d := fun e => hk e.symm
      simp [hk, this]
theorem act_ext {a b : Act} (h1 : a.defers = b.defers) (h2 : ∀ k : Nat, a.tmps[k]? = b.tmps[k]?) : a = b := by
  obtain ⟨a1, a2⟩ := a
  obtain ⟨b1, b2⟩ := b
  have : a1 = b1 := Array.ext_getElem? h2
  simp only at h1
  rw [this, h1]
theorem puts_put {A : Act} {X : Nat → Value} {ds : List Nat} {d : Nat} (v : Value) (hd : d ∈ ds) : (puts A X ds).put (some d) v = puts A (upd X d v) ds := by
  refine act_ext ?_ ?_
  · rw [puts_defers]; exact puts_defers A X ds
  · intro k
    show (Array.setIfInBounds (puts A X ds).tmps d v)[k]? = _
    rw [Array.getElem?_setIfInBounds, puts_size, puts_at, puts_at]
    by_cases hk : d = k
    · subst hk
      by_cases hl : d < A.tmps.size
      · simp [hl, hd, upd]
      · simp [hl]
    · have : k ≠ d := fun e => hk e.symm
      simp [hk, this, upd]
theorem puts_self (A : Act) (ds : List Nat) : puts A (fun k => A.tmps.getD k undef) ds = A := by
  refine act_ext (puts_defers _ _ _) fun k => ?_
  rw [puts_at]
  split
  · rename_i h; simp [h.2]
  · rfl
theorem eval_in {A : Act} {X : Nat → Value} {ds : List Nat} {k : Nat} (hk : k ∈ ds) (hl : k < A.tmps.size) : (puts A X ds).eval (.tmp k) = X k := by
  show Array.getD _ _ _ = _
  rw [Array.getD_eq_getD_getElem?, puts_at, if_pos ⟨hk, hl⟩]
  rfl
theorem eval_out {A : Act} {X : Nat → Value} {ds : List Nat} {k : Nat} (hk : k ∉ ds) : (puts A X ds).eval (.tmp k) = A.eval (.tmp k) := by
  show Array.getD _ _ _ = Array.getD _ _ _
  rw [Array.getD_eq_getD_getElem?, puts_at, if_neg (fun h => hk h.1), Array.getD_eq_getD_getElem?]
section
variable {P : Program} {Q : Exit → Act → World → Prop} {md : Region.Mode}
/-- Number k must come up ahead of the operation. -/
def needs (md : Region.Mode) (o : Oper) (k : Nat) : Bool := o.after.any fun e => Region.binds md e && e.on == k
/-- One step for each operation. -/
def Steps (P : Program) (md : Region.Mode) (Q : Exit → Act → World → Prop) (A : Act) (ds : List Nat) (J : (Nat → Prop) → (Nat → Value) → World → Prop) : Nat → List Oper → Prop
  | _, [] => True
  | i, o :: os => (∀ on X W, J on X W → ¬ on i → (∀ k, needs md o k = true → on k) → o.wp P (puts A X ds) W (fun a' W' => ∃ X', a' = puts A X' ds ∧ J (fun k => k = i ∨ on k) X' W') Q) ∧ Steps P md Q A ds J (i + 1) os
theorem Steps.at_ {A : Act} {ds : List Nat} {J : (Nat → Prop) → (Nat → Value) → World → Prop} : ∀ {os : List Oper} {i : Nat}, Steps P md Q A ds J i os → ∀ {j : Nat} {o : Oper}, os[j]? = some o →
    ∀ on X W, J on X W → ¬ on (i + j) → (∀ k, needs md o k = true → on k) → o.wp P (puts A X ds) W (fun a' W' => ∃ X', a' = puts A X' ds ∧ J (fun k => k = i + j ∨ on k) X' W') Q
  | [], _, _, _, _, h => by cases h
  | _ :: _, i, h, 0, _, e => by cases e; exact h.1
  | _ :: os, i, h, j + 1, _, e => by
    have := Steps.at_ h.2 (j := j) e
    rwa [show i + 1 + j = i + (j + 1) by omega] at this
/-- No operation is guarded, and each waits for earlier ones alone. -/
def plainB (md : Region.Mode) (ops : List Oper) : Bool := (List.range ops.length).all fun i => match ops[i]? with
  | some o => o.guard.isNone && o.after.all fun e => !Region.binds md e || decide (e.on < i)
  | none => true
theorem plainB_at {ops : List Oper} (h : plainB md ops = true) {i : Nat} {o : Oper} (ho : ops[i]? = some o) : o.guard = none ∧ ∀ e ∈ o.after, Region.binds md e = true → e.on < i := by
  have hlt : i < ops.length := (List.getElem?_eq_some_iff.1 ho).1
  have := List.all_eq_true.1 h i (List.mem_range.2 hlt)
  rw [ho] at this
  simp only [Bool.and_eq_true, Option.isNone_iff_eq_none] at this
  refine ⟨this.1, fun e he hb => ?_⟩
  have := Array.all_eq_true'.1 this.2 e he
  rw [hb] at this
  simpa using this
def onL (listed : Array Bool) : Nat → Prop := fun k => listed.getD k false = true
theorem onL_set {listed : Array Bool} {i : Nat} (hi : i < listed.size) : onL (listed.setIfInBounds i true) = fun k => k = i ∨ onL listed k := by
  funext k
  unfold onL
  rw [Array.getD_eq_getD_getElem?, Array.getElem?_setIfInBounds, Array.getD_eq_getD_getElem?]
  by_cases hk : i = k
  · subst hk; simp [hi]
  · have : k ≠ i := fun e => hk e.symm
    simp [hk, this]
def offs (listed : Array Bool) : Nat := (listed.toList.filter (· == false)).length
theorem offs_set {listed : Array Bool} {i : Nat} (h : listed.getD i true = false) : offs (listed.setIfInBounds i true) + 1 = offs listed := by
  obtain ⟨l⟩ := listed
  unfold offs
  rw [Array.getD_eq_getD_getElem?] at h
  simp only [List.getElem?_toArray, List.setIfInBounds_toArray] at h ⊢
  induction l generalizing i with
  | nil => simp at h
  | cons b l ih =>
    cases i with
    | zero =>
      simp at h
      subst h
      simp
    | succ i =>
      have := ih (i := i) (by simpa using h)
      cases b <;> simp at this ⊢ <;> omega
theorem all_on {ops : List Oper} (hp : plainB md ops = true) {listed : Array Bool} (hs : listed.size = ops.length) (hr : Region.ready md ops.toArray listed = []) : ∀ i, i < ops.length → onL listed i := by
  intro i
  induction i using Nat.strongRecOn with
  | ind i ih =>
    intro hi
    by_cases h : listed.getD i true = false
    · exfalso
      have : i ∈ Region.ready md ops.toArray listed := by
        refine mem_ready.2 ⟨h, ops[i], by simp [hi], fun e he hb => ?_⟩
        have hlt := (plainB_at hp (i := i) (o := ops[i]) (by simp [hi])).2 e he hb
        exact ih e.on hlt (by omega)
      rw [hr] at this
      cases this
    · unfold onL
      rw [Array.getD_eq_getD_getElem?] at h ⊢
      have hil : i < listed.size := by omega
      simp [hil] at h ⊢
      exact h
theorem wpAny_J {ops : List Oper} {A : Act} {ds : List Nat} (J : (Nat → Prop) → (Nat → Value) → World → Prop) (hp : plainB md ops = true) (hst : Steps P md Q A ds J 0 ops)
    (hdone : ∀ on X W, J on X W → (∀ i, i < ops.length → on i) → Q .normal (puts A X ds) W) :
    ∀ (fuel : Nat) (listed : Array Bool) (X : Nat → Value) (W : World), listed.size = ops.length → offs listed ≤ fuel → J (onL listed) X W → wpAny P md ops.toArray Q fuel listed (puts A X ds) W
  | 0, listed, X, W, hs, ho, hJ => by
    have hr : Region.ready md ops.toArray listed = [] := by
      cases hr : Region.ready md ops.toArray listed with
      | nil => rfl
      | cons i l =>
        have : i ∈ Region.ready md ops.toArray listed := by rw [hr]; exact List.mem_cons_self
        have := offs_set (mem_ready.1 this).1
        omega
    exact ⟨hr, hdone _ _ _ hJ (all_on hp hs hr)⟩
  | fuel + 1, listed, X, W, hs, ho, hJ => by
    refine ⟨fun hr => hdone _ _ _ hJ (all_on hp hs hr), fun i hi => ?_⟩
    obtain ⟨hn, o, hoi, hd⟩ := mem_ready.1 hi
    have hoi' : ops[i]? = some o := by simpa using hoi
    have hlt : i < listed.size := by rw [hs]; exact (List.getElem?_eq_some_iff.1 hoi').1
    have hstep := Steps.at_ hst hoi' (onL listed) X W hJ (by
      rw [Nat.zero_add]
      unfold onL
      rw [Array.getD_eq_getD_getElem?] at hn ⊢
      simp [hlt] at hn ⊢
      exact hn) (fun k hk => by
      obtain ⟨e, he, h2⟩ := Array.any_eq_true'.1 hk
      rw [Bool.and_eq_true] at h2
      have := hd e he h2.1
      rwa [show e.on = k by simpa using h2.2] at this)
    unfold wpOp
    rw [hoi]
    have hw : Region.wanted o (yielded ops.toArray (puts A X ds).tmps) = true := by simp [Region.wanted, (plainB_at hp hoi').1]
    simp only [hw, if_true]
    refine .inl (Oper.wp_mono ?_ hstep)
    rintro a' W' ⟨X', rfl, hJ'⟩
    refine wpAny_J J hp hst hdone fuel _ X' W' (by simpa using hs) (by have := offs_set hn; omega) ?_
    rw [onL_set hlt]
    rwa [Nat.zero_add] at hJ'
/-- The whole region. -/
theorem wp_region_J {id : Nat} {ops : List Oper} {a : Act} {w : World} (ds : List Nat) (J : (Nat → Prop) → (Nat → Value) → World → Prop) (hm : P.follows .mixedOrders = true) (hp : plainB .any ops = true)
    (h0 : J (fun _ => False) (fun k => a.tmps.getD k undef) w.drew) (hst : Steps P .any Q a ds J 0 ops)
    (hdone : ∀ on X W, J on X W → (∀ i, i < ops.length → on i) → Q .normal (puts a X ds) W) : (Code.region id ops.toArray true).wp P Q a w := by
  refine wp_region_any hm ?_
  have h := wpAny_J (md := .any) J hp hst hdone ops.length (Array.replicate ops.length false) (fun k => a.tmps.getD k undef) w.drew (by simp) (by
    unfold offs
    refine Nat.le_trans (List.length_filter_le _ _) ?_
    simp) (by
    have : onL (Array.replicate ops.length false) = fun _ => False := by
      funext k
      unfold onL
      rw [Array.getD_eq_getD_getElem?, Array.getElem?_replicate]
      split <;> simp
    rw [this]
    exact h0)
  rw [puts_self] at h
  simpa using h
theorem op_value {o : Oper} {a : Act} {w w' : World} {v : Value} {K : Act → World → Prop} (h : (execOp a.eval o).run P w = .ok (.value v) w') (hK : K (a.put o.dst v) w') : o.wp P a w K Q := by
  unfold Oper.wp
  rw [h]
  exact hK
theorem op_call {o : Oper} {a : Act} {w : World} {f : FuncId} {vs : Array Value} {K : Act → World → Prop} (h : (execOp a.eval o).run P w = .ok (.enter f vs) w) (hK : Calls P f vs w fun r w' => ∃ v, r = .returned v ∧ K (a.put o.dst v) w') : o.wp P a w K Q := by
  unfold Oper.wp
  rw [h]
  refine Calls.mono hK ?_
  rintro e w' ⟨v, rfl, h'⟩
  exact h'
end
/-- A region of a function's code. -/
def regionJ (n : Nat) : Code → Option Code
  | .region m ops d => if m = n then some (.region m ops d) else none
  | .loop c => regionJ n c
  | .seq a b => match regionJ n a with
    | some c => some c
    | none => regionJ n b
  | .block _ c => regionJ n c
  | .scope c => regionJ n c
  | .cond _ a b => match regionJ n a with
    | some c => some c
    | none => regionJ n b
  | _ => none
end Go.Proofs.YtidghoipmggklaaGreat
end

section
/- A region that draws its order and lays new blocks alone: what each operation gives, in any order, stays as it is. One step an operation, one fact a slot. -/
namespace Go.Proofs.YtidghoipmggklaaGreat
open Go Go.RowKit
section
variable {P : Program} {Q : Exit → Act → World → Prop} {md : Region.Mode}
/-- One step for each operation: what it needs is there; it gives what it must. -/
def StepsV (P : Program) (md : Region.Mode) (Q : Exit → Act → World → Prop) (A : Act) (ds : List Nat) (V : Nat → Value → World → Prop) (W0 : World) : Nat → List Oper → Prop
  | _, [] => True
  | i, o :: os => (∀ X W, Below W0.heap.size W0 W → (∀ k, needs md o k = true → V k (X (ds.getD k 0)) W) → o.wp P (puts A X ds) W (fun a' W' => ∃ v, a' = (puts A X ds).put o.dst v ∧ V i v W' ∧ Below W.heap.size W W') Q) ∧ StepsV P md Q A ds V W0 (i + 1) os
def dstsB : List Nat → List Oper → Bool
  | [], [] => true
  | d :: ds, o :: os => (o.dst == some d) && !ds.contains d && dstsB ds os
  | _, _ => false
theorem dstsB_len : ∀ {ds : List Nat} {os : List Oper}, dstsB ds os = true → ds.length = os.length
  | [], [], _ => rfl
  | [], _ :: _, h => by cases h
  | _ :: _, [], h => by cases h
  | d :: ds, o :: os, h => by
    simp only [dstsB, Bool.and_eq_true] at h
    simp [dstsB_len h.2]
theorem dstsB_at : ∀ {ds : List Nat} {os : List Oper}, dstsB ds os = true → ∀ {i : Nat} {o : Oper}, os[i]? = some o → o.dst = some (ds.getD i 0) ∧ ds.getD i 0 ∈ ds
  | [], [], _, i, o, h => by simp at h
  | [], _ :: _, h, _, _, _ => by cases h
  | _ :: _, [], h, _, _, _ => by cases h
  | d :: ds, o :: os, h, 0, x, e => by
    simp only [dstsB, Bool.and_eq_true] at h
    cases e
    exact ⟨by simpa using h.1.1, by simp⟩
  | d :: ds, o :: os, h, i + 1, x, e => by
    simp only [dstsB, Bool.and_eq_true] at h
    have := dstsB_at h.2 (i := i) e
    exact ⟨by simpa using this.1, by simpa using Or.inr this.2⟩
theorem dstsB_ne : ∀ {ds : List Nat} {os : List Oper}, dstsB ds os = true → ∀ {i j : Nat}, i < ds.length → j < ds.length → i ≠ j → ds.getD i 0 ≠ ds.getD j 0
  | [], [], _, i, j, h, _, _ => by simp at h
  | [], _ :: _, h, _, _, _, _, _ => by cases h
  | _ :: _, [], h, _, _, _, _, _ => by cases h
  | d :: ds, o :: os, h, i, j, hi, hj, hne => by
    simp only [dstsB, Bool.and_eq_true] at h
    have hm : d ∉ ds := by simpa using h.1.2
    have mem : ∀ k, k < ds.length → ds.getD k 0 ∈ ds := fun k hk => by rw [List.getD_eq_getElem?_getD, List.getElem?_eq_getElem hk]; exact List.getElem_mem hk
    cases i with
    | zero =>
      cases j with
      | zero => exact absurd rfl hne
      | succ j =>
        intro e
        have e' : d = ds.getD j 0 := by simpa using e
        exact hm (e' ▸ mem j (by simpa using hj))
    | succ i =>
      cases j with
      | zero =>
        intro e
        have e' : ds.getD i 0 = d := by simpa using e
        exact hm (e' ▸ mem i (by simpa using hi))
      | succ j =>
        have := dstsB_ne h.2 (i := i) (j := j) (by simpa using hi) (by simpa using hj) (by omega)
        simpa using this
theorem steps_of_V {A : Act} {ds : List Nat} {V : Nat → Value → World → Prop} {W0 : World} {all : List Oper} (hds : dstsB ds all = true) (hV : ∀ i v W W', V i v W → Below W.heap.size W W' → V i v W') :
    ∀ {os : List Oper} {i : Nat}, (∀ j o, os[j]? = some o → all[i + j]? = some o) → StepsV P md Q A ds V W0 i os →
      Steps P md Q A ds (fun on X W => (∀ k, k < all.length → on k → V k (X (ds.getD k 0)) W) ∧ (∀ k, on k → k < all.length) ∧ Below W0.heap.size W0 W) i os
  | [], _, _, _ => trivial
  | o :: os, i, hall, h => by
    have hoi := hall 0 o rfl
    rw [Nat.add_zero] at hoi
    have hil : i < all.length := (List.getElem?_eq_some_iff.1 hoi).1
    obtain ⟨hd1, hd2⟩ := dstsB_at hds hoi
    refine ⟨?_, steps_of_V hds hV (fun j o' e => by have := hall (j + 1) o' (by simpa using e); rwa [show i + 1 + j = i + (j + 1) by omega]) h.2⟩
    rintro on X W ⟨h1, h2, h3⟩ hn hk
    refine Oper.wp_mono ?_ (h.1 X W h3 (fun k hk' => h1 k (h2 k (hk k hk')) (hk k hk')))
    rintro a' W' ⟨v, rfl, hv, hb⟩
    refine ⟨upd X (ds.getD i 0) v, by rw [hd1]; exact puts_put v hd2, ?_, ?_, h3.trans (hb.mono h3.size)⟩
    · rintro k hkl (rfl | hk')
      · simpa [upd] using hv
      · have hne : k ≠ i := fun e => hn (e ▸ hk')
        have := dstsB_ne hds (by rw [dstsB_len hds]; exact hkl) (by rw [dstsB_len hds]; exact hil) hne
        simp only [upd, this, if_false]
        exact hV _ _ _ _ (h1 k hkl hk') hb
    · rintro k (rfl | hk')
      · exact hil
      · exact h2 k hk'
/-- The whole region. -/
theorem wp_region_V {id : Nat} {ops : List Oper} {a : Act} {w : World} (ds : List Nat) (V : Nat → Value → World → Prop) (hm : P.follows .mixedOrders = true) (hp : plainB .any ops = true) (hds : dstsB ds ops = true)
    (hV : ∀ i v W W', V i v W → Below W.heap.size W W' → V i v W') (hst : StepsV P .any Q a ds V w 0 ops)
    (hdone : ∀ X W, Below w.heap.size w W → (∀ i, i < ops.length → V i (X (ds.getD i 0)) W) → Q .normal (puts a X ds) W) : (Code.region id ops.toArray true).wp P Q a w := by
  refine wp_region_J ds _ hm hp ?_ (steps_of_V hds hV (all := ops) (i := 0) (fun j o e => by rwa [Nat.zero_add]) hst) ?_
  · exact ⟨fun _ _ h => h.elim, fun _ h => h.elim, ⟨rfl, rfl, rfl, Nat.le_refl _, fun _ _ => rfl⟩⟩
  · rintro on X W ⟨h1, _, h3⟩ hall
    exact hdone X W h3 (fun i hi => h1 i hi (hall i hi))
theorem v_value {o : Oper} {a : Act} {w : World} {v : Value} {V : Value → World → Prop} (h : (execOp a.eval o).run P w = .ok (.value v) w) (hV : V v w) : o.wp P a w (fun a' W' => ∃ v, a' = a.put o.dst v ∧ V v W' ∧ Below w.heap.size w W') Q :=
  op_value h ⟨v, rfl, hV, Below.refl _ _⟩
theorem v_call {o : Oper} {a : Act} {w : World} {f : FuncId} {vs : Array Value} {V : Value → World → Prop} (h : (execOp a.eval o).run P w = .ok (.enter f vs) w) (hK : Calls P f vs w fun r w' => ∃ v, r = .returned v ∧ V v w' ∧ Below w.heap.size w w') : o.wp P a w (fun a' W' => ∃ v, a' = a.put o.dst v ∧ V v W' ∧ Below w.heap.size w W') Q :=
  op_call h (hK.mono fun _ _ ⟨v, e, hv, hb⟩ => ⟨v, e, v, rfl, hv, hb⟩)
end
end Go.Proofs.YtidghoipmggklaaGreat
end

section
/- Which programs are known, their combiners, the checks of parameters. -/
namespace Go.Proofs.YtidghoipmggklaaGreat
open Go.RowKit
abbrev isBfs (s : ByteArray) : Bool := s.toList == [98, 102, 115]
abbrev isCc (s : ByteArray) : Bool := s.toList == [99, 99]
abbrev isDeg (s : ByteArray) : Bool := s.toList == [100, 101, 103, 114, 101, 101]
abbrev isPr (s : ByteArray) : Bool := s.toList == [112, 97, 103, 101, 114, 97, 110, 107]
abbrev isSp (s : ByteArray) : Bool := s.toList == [115, 115, 115, 112]
abbrev isKc (s : ByteArray) : Bool := s.toList == [107, 99, 111, 114, 101]
def ownS (s : ByteArray) : Bool := isBfs s || isCc s || isDeg s || isPr s || isSp s
/-- Numbers lie in memory from an address on. -/
def IsAt (w : World) (ao : Option Addr) (L : List Int) : Prop := 0 < L.length → ∃ b off, ao = some ⟨b, off, none⟩ ∧ ∀ j (h : j < L.length), w.cell? ⟨b, off + j, none⟩ = some (.int .i64 L[j])
theorem IsAt.new {w w' : World} {ao : Option Addr} {L : List Int} (h : IsAt w ao L) (hb : Below w.heap.size w w') : IsAt w' ao L := fun hl => by
  obtain ⟨b, off, e, hc⟩ := h hl
  exact ⟨b, off, e, fun j hj => (hb.cell (p := ⟨b, off + j, none⟩) (lt_cell (hc j hj))).trans (hc j hj)⟩
def noneN (L : List Int) : Int := if L.length = 0 then 0 else 71
def turnN (L : List Int) : Int := if L.length = 1 ∧ 0 ≤ L.getD 0 0 ∧ L.getD 0 0 ≤ 100 then 0 else 71
theorem IsAt.one {w : World} {ao : Option Addr} {L : List Int} (h : IsAt w ao L) (h1 : L.length = 1) : ∃ b off, ao = some ⟨b, off, none⟩ ∧ w.cell? ⟨b, off, none⟩ = some (.int .i64 (L.getD 0 0)) := by
  obtain ⟨b, off, e, hc⟩ := h (by omega)
  refine ⟨b, off, e, ?_⟩
  have := hc 0 (by omega)
  rw [Nat.add_zero] at this
  rw [this]
  match L, h1 with
  | [x], _ => rfl
set_option maxRecDepth 100000 in
theorem none_any {ao : Option Addr} (L : List Int) (n cap : Nat) (w : World) (hn : n = L.length) : Calls Tryz.prog 156 #[.slice ao n cap] w fun r w' => r = .returned (.int .i64 (noneN L)) ∧ w' = w := by
  unfold noneN
  rw [← hn]
  by_cases h : n = 0
  · subst h
    clear hn
    go_enter Tryz.func156, Tryz.ntmps156
    go_wp2
    go_ret
    exact ⟨by simp, rfl⟩
  · clear hn
    go_enter Tryz.func156, Tryz.ntmps156
    go_wp2
    all_goals first | (exfalso; omega) | (go_ret; exact ⟨by simp, rfl⟩)
set_option maxRecDepth 100000 in
theorem turns_any {ao : Option Addr} (L : List Int) (n cap : Nat) (w : World) (hn : n = L.length) (hL : IsAt w ao L) : Calls Tryz.prog 154 #[.slice ao n cap] w fun r w' => r = .returned (.int .i64 (turnN L)) ∧ w' = w := by
  by_cases h1 : n = 1
  · obtain ⟨b, off, rfl, hc⟩ := hL.one (by omega)
    have HT : Hid (turnN L = if 0 ≤ L.getD 0 0 ∧ L.getD 0 0 ≤ 100 then 0 else 71) := by
      show _ = _
      unfold turnN
      have : L.length = 1 := by omega
      simp [this]
    generalize L.getD 0 0 = x at hc HT
    subst h1
    rw [HT.out]
    clear hn hL HT
    go_enter Tryz.func154, Tryz.ntmps154
    by_cases g0 : x < 0
    · go_wp2
      all_goals first | (exfalso; omega) | (go_ret; exact ⟨by first | rfl | (rw [if_neg (by omega)]; rfl), rfl⟩)
    · by_cases g1 : 100 < x
      · go_wp2
        all_goals first | (exfalso; omega) | (go_ret; exact ⟨by first | rfl | (rw [if_neg (by omega)]; rfl), rfl⟩)
      · go_wp2
        all_goals first | (exfalso; omega) | (go_ret; exact ⟨by first | rfl | (rw [if_pos (by omega)]; rfl), rfl⟩)
  · have HT : Hid (turnN L = 71) := by
      show _ = _
      unfold turnN
      rw [if_neg (by omega)]
    rw [HT.out]
    have hb : ((n : Int) != 1) = true := by simp; omega
    clear hn hL HT
    go_enter Tryz.func154, Tryz.ntmps154
    go_wp2
    all_goals first | (exfalso; omega) | (go_ret; exact ⟨rfl, rfl⟩)
end Go.Proofs.YtidghoipmggklaaGreat
end

section
/- Region 3 of Source: the vertex is looked for. -/
namespace Go.Proofs.YtidghoipmggklaaGreat
open Go.RowKit
theorem kc_new {w w' : World} {P : Nat → Prop} {ao : Option Addr} {G : List Vx} (h : VxAt w P ao G) (hb : Below w.heap.size w w') : VxAt w' P ao G := h.kept (Fr.ofBelow hb (fun _ => False)) (fun _ _ hp => ⟨fun h => h, hp⟩)
theorem kc_lt {w : World} {P : Nat → Prop} {ao : Option Addr} {G : List Vx} (h : VxAt w P ao G) : VxAt w (fun k => k < w.heap.size) ao G := h.kept (Fr.refl _ (fun _ => False)) (fun _ hk _ => ⟨fun h => h, hk⟩)
set_option maxRecDepth 100000 in
set_option maxHeartbeats 1000000 in
theorem source_r3 {W0 : World} {A : Act} {bx b off n cap pc : Nat} {ao : Option Addr} {P : Nat → Prop} {G : List Vx} {x : Int} {fb : Bool} {K : Act → World → Prop} {Q' : Exit → Act → World → Prop} (hsz : A.tmps.size = 20) (hA2 : A.eval (.tmp 2) = .pointer (some ⟨bx, 0, none⟩)) (hA1 : A.eval (.tmp 1) = .slice (some ⟨b, off, none⟩) 1 pc) (hB : W0.cell? ⟨bx, 0, none⟩ = some (.slice ao n cap)) (hc : W0.cell? ⟨b, off, none⟩ = some (.int .i64 x)) (hn : n = G.length) (hG : VxAt W0 P ao G) (hl : G.length ≤ 256) (hr : Rise (ids G)) (hfb : foundB (ids G) x = fb)
    (HK : ∀ X W, Below W0.heap.size W0 W → X 6 = .bool fb → K (puts A X [11, 12, 13, 14, 15, 10, 16, 17, 5, 6]) W) :
    Code.wp Tryz.prog ((Tryz.f196.body.bind (regionJ 3)).getD .skip) (Exit.then K Q') A W0 := by
  obtain ⟨ds, hds⟩ : ∃ ds, [11, 12, 13, 14, 15, 10, 16, 17, 5, 6] = ds := ⟨_, rfl⟩
  have hin : ∀ {X : Nat → Value} {k : Nat}, k ∈ [11, 12, 13, 14, 15, 10, 16, 17, 5, 6] → (puts A X ds).eval (.tmp k) = X k := fun hk => by rw [← hds]; exact eval_in hk (by rw [hsz]; revert hk; simp only [List.mem_cons, List.not_mem_nil, or_false]; omega)
  have hout : ∀ {X : Nat → Value} {k : Nat}, k ∉ [11, 12, 13, 14, 15, 10, 16, 17, 5, 6] → (puts A X ds).eval (.tmp k) = A.eval (.tmp k) := fun hk => by rw [← hds]; exact eval_out hk
  have g0 : ds.getD 0 0 = 11 := by rw [← hds]; rfl
  have g1 : ds.getD 1 0 = 12 := by rw [← hds]; rfl
  have g2 : ds.getD 2 0 = 13 := by rw [← hds]; rfl
  have g3 : ds.getD 3 0 = 14 := by rw [← hds]; rfl
  have g4 : ds.getD 4 0 = 15 := by rw [← hds]; rfl
  have g5 : ds.getD 5 0 = 10 := by rw [← hds]; rfl
  have g6 : ds.getD 6 0 = 16 := by rw [← hds]; rfl
  have g7 : ds.getD 7 0 = 17 := by rw [← hds]; rfl
  have g8 : ds.getD 8 0 = 5 := by rw [← hds]; rfl
  have g9 : ds.getD 9 0 = 6 := by rw [← hds]; rfl
  obtain ⟨V, hV, e0, e1, e2, e3, e4, e5, e6, e7, e8, e9⟩ : ∃ V : Nat → Value → World → Prop, (∀ i v W W', V i v W → Below W.heap.size W W' → V i v W') ∧ (∀ v W, V 0 v W = (v = .agg #[.slice ao n cap])) ∧ (∀ v W, V 1 v W = (v = .slice (some ⟨b, off, none⟩) 1 pc)) ∧ (∀ v W, V 2 v W = (v = .pointer (some ⟨b, off, none⟩))) ∧ (∀ v W, V 3 v W = (v = .int .i64 x)) ∧ (∀ v W, V 4 v W = (v = .tuple #[.int .i64 (findN (ids G) x), .bool fb])) ∧ (∀ v W, V 5 v W = (v = .tuple #[.int .i64 (findN (ids G) x), .bool fb])) ∧ (∀ v W, V 6 v W = (v = .int .i64 (findN (ids G) x))) ∧ (∀ v W, V 7 v W = (v = .bool fb)) ∧ (∀ v W, V 8 v W = (v = .int .i64 (findN (ids G) x))) ∧ (∀ v W, V 9 v W = (v = .bool fb)) := by
    refine ⟨fun i v W => match i with
      | 0 => v = .agg #[.slice ao n cap]
      | 1 => v = .slice (some ⟨b, off, none⟩) 1 pc
      | 2 => v = .pointer (some ⟨b, off, none⟩)
      | 3 => v = .int .i64 x
      | 4 => v = .tuple #[.int .i64 (findN (ids G) x), .bool fb]
      | 5 => v = .tuple #[.int .i64 (findN (ids G) x), .bool fb]
      | 6 => v = .int .i64 (findN (ids G) x)
      | 7 => v = .bool fb
      | 8 => v = .int .i64 (findN (ids G) x)
      | 9 => v = .bool fb
      | _ => True, ?_, fun _ _ => rfl, fun _ _ => rfl, fun _ _ => rfl, fun _ _ => rfl, fun _ _ => rfl, fun _ _ => rfl, fun _ _ => rfl, fun _ _ => rfl, fun _ _ => rfl, fun _ _ => rfl⟩
    intro i v W W' h hb
    match i, h with
    | 0, h => exact h
    | 1, h => exact h
    | 2, h => exact h
    | 3, h => exact h
    | 4, h => exact h
    | 5, h => exact h
    | 6, h => exact h
    | 7, h => exact h
    | 8, h => exact h
    | 9, h => exact h
    | _ + 10, _ => trivial
  conv => arg 2; whnf
  refine wp_region_V ds V (by kernel_rfl) (by kernel_rfl) (by rw [← hds]; kernel_rfl) hV ?_ ?_
  · refine ⟨?_, ?_, ?_, ?_, ?_, ?_, ?_, ?_, ?_, ?_, trivial⟩
    all_goals intro X W hb hd
    · have h0 := hout (X := X) (k := 2) (by decide)
      rw [hA2] at h0
      have c0 := (hb.cell (p := ⟨bx, 0, none⟩) (lt_cell hB)).trans hB
      refine v_value (V := V 0) (v := .agg #[.slice ao n cap]) ?_ (by rw [e0])
      generalize (puts A X ds).eval = ρ at h0 ⊢
      go_simp
    · have h0 := hout (X := X) (k := 1) (by decide)
      rw [hA1] at h0
      refine v_value (V := V 1) (v := .slice (some ⟨b, off, none⟩) 1 pc) ?_ (by rw [e1])
      generalize (puts A X ds).eval = ρ at h0 ⊢
      go_simp
    · have d0 := hd 1 (by kernel_rfl)
      rw [e1, g1] at d0
      have h0 := (hin (X := X) (k := 12) (by decide)).trans d0
      have h1 : (puts A X ds).eval (.const (.int .i64 0)) = .int .i64 0 := rfl
      refine v_value (V := V 2) (v := .pointer (some ⟨b, off, none⟩)) ?_ (by rw [e2])
      generalize (puts A X ds).eval = ρ at h0 h1 ⊢
      go_simp
    · have d0 := hd 2 (by kernel_rfl)
      rw [e2, g2] at d0
      have h0 := (hin (X := X) (k := 13) (by decide)).trans d0
      have c0 := (hb.cell (p := ⟨b, off, none⟩) (lt_cell hc)).trans hc
      refine v_value (V := V 3) (v := .int .i64 x) ?_ (by rw [e3])
      generalize (puts A X ds).eval = ρ at h0 ⊢
      go_simp
    · have d0 := hd 0 (by kernel_rfl)
      rw [e0, g0] at d0
      have h0 := (hin (X := X) (k := 11) (by decide)).trans d0
      have d1 := hd 3 (by kernel_rfl)
      rw [e3, g3] at d1
      have h1 := (hin (X := X) (k := 14) (by decide)).trans d1
      have hf : (puts A X ds).eval (.func 195) = .func (.func 195) #[] #[] := rfl
      refine v_call (V := V 4) (f := 195) (vs := #[.agg #[.slice ao n cap], .int .i64 x]) ?_ ?_
      · generalize (puts A X ds).eval = ρ at h0 h1 hf ⊢
        go_simp
      · subst hn
        refine (find_any cap x (kc_lt (kc_new hG hb)) hl hr).mono ?_
        rintro r W' ⟨rfl, hb'⟩
        exact ⟨_, rfl, by rw [e4, hfb], hb'⟩
    · have d0 := hd 4 (by kernel_rfl)
      rw [e4, g4] at d0
      have h0 := (hin (X := X) (k := 15) (by decide)).trans d0
      refine v_value (V := V 5) (v := .tuple #[.int .i64 (findN (ids G) x), .bool fb]) ?_ (by rw [e5])
      generalize (puts A X ds).eval = ρ at h0 ⊢
      go_simp
    · have d0 := hd 5 (by kernel_rfl)
      rw [e5, g5] at d0
      have h0 := (hin (X := X) (k := 10) (by decide)).trans d0
      refine v_value (V := V 6) (v := .int .i64 (findN (ids G) x)) ?_ (by rw [e6])
      generalize (puts A X ds).eval = ρ at h0 ⊢
      go_simp
    · have d0 := hd 5 (by kernel_rfl)
      rw [e5, g5] at d0
      have h0 := (hin (X := X) (k := 10) (by decide)).trans d0
      refine v_value (V := V 7) (v := .bool fb) ?_ (by rw [e7])
      generalize (puts A X ds).eval = ρ at h0 ⊢
      go_simp
    · have d0 := hd 6 (by kernel_rfl)
      rw [e6, g6] at d0
      have h0 := (hin (X := X) (k := 16) (by decide)).trans d0
      refine v_value (V := V 8) (v := .int .i64 (findN (ids G) x)) ?_ (by rw [e8])
      generalize (puts A X ds).eval = ρ at h0 ⊢
      go_simp
    · have d0 := hd 7 (by kernel_rfl)
      rw [e7, g7] at d0
      have h0 := (hin (X := X) (k := 17) (by decide)).trans d0
      refine v_value (V := V 9) (v := .bool fb) ?_ (by rw [e9])
      generalize (puts A X ds).eval = ρ at h0 ⊢
      go_simp
  · intro X W hb hall
    have r0 := hall 0 (by decide)
    rw [e0, g0] at r0
    have r1 := hall 1 (by decide)
    rw [e1, g1] at r1
    have r2 := hall 2 (by decide)
    rw [e2, g2] at r2
    have r3 := hall 3 (by decide)
    rw [e3, g3] at r3
    have r4 := hall 4 (by decide)
    rw [e4, g4] at r4
    have r5 := hall 5 (by decide)
    rw [e5, g5] at r5
    have r6 := hall 6 (by decide)
    rw [e6, g6] at r6
    have r7 := hall 7 (by decide)
    rw [e7, g7] at r7
    have r8 := hall 8 (by decide)
    rw [e8, g8] at r8
    have r9 := hall 9 (by decide)
    rw [e9, g9] at r9
    have := HK X W hb (by first | assumption | exact ⟨by assumption, by assumption⟩ | exact ⟨by assumption, by assumption, by assumption⟩ | simp_all)
    rw [hds] at this
    exact this
/-- Is the only parameter a vertex? -/
def srcN (G : List Vx) (L : List Int) : Int := if L.length = 1 ∧ foundB (ids G) (L.getD 0 0) = true then 0 else 71
set_option maxRecDepth 100000 in
set_option maxHeartbeats 1000000 in
theorem source_any {w : World} {P : Nat → Prop} {ao po : Option Addr} (G : List Vx) (L : List Int) (n cap pn pc : Nat) (hn : n = G.length) (hp : pn = L.length) (hG : VxAt w P ao G) (hL : IsAt w po L) (hl : G.length ≤ 256) (hr : Rise (ids G)) :
    Calls Tryz.prog 196 #[.agg #[.slice ao n cap], .slice po pn pc] w fun r w' => r = .returned (.int .i64 (srcN G L)) ∧ Below w.heap.size w w' := by
  obtain ⟨W0, hW0⟩ : ∃ W0, w.alloc (.cells #[.slice ao n cap] 24) = W0 := ⟨_, rfl⟩
  have hB0 : Below w.heap.size w W0 := by rw [← hW0]; exact (Below.refl _ _).alloc (Nat.le_refl _) _
  have hcg : W0.cell? ⟨w.heap.size, 0, none⟩ = some (.slice ao n cap) := by
    have hh : W0.heap[w.heap.size]? = some (.cells #[.slice ao n cap] 24 (0, 0)) := by rw [← hW0]; exact heap_alloc_new _ _
    simp [World.cell?, hh]
  by_cases h1 : pn = 1
  · obtain ⟨b, off, rfl, hc⟩ := hL.one (by omega)
    have HT : Hid (srcN G L = if foundB (ids G) (L.getD 0 0) = true then 0 else 71) := by
      show _ = _
      unfold srcN
      have : L.length = 1 := by omega
      simp [this]
    have HC : Hid (W0.cell? ⟨b, off, none⟩ = some (.int .i64 (L.getD 0 0))) := (hB0.cell (p := ⟨b, off, none⟩) (lt_cell hc)).trans hc
    have HG : Hid _ := kc_new hG hB0
    have HCg : Hid _ := hcg
    have HB0 : Hid _ := hB0
    have HN : Hid _ := hn
    generalize L.getD 0 0 = x at HC HT
    subst h1
    rw [HT.out]
    obtain ⟨fb, hfb⟩ : ∃ fb, foundB (ids G) x = fb := ⟨_, rfl⟩
    have HF : Hid _ := hfb
    rw [hfb]
    clear hn hp hL hG hc HT hcg hB0 hfb
    go_enter Tryz.func196, Tryz.ntmps196
    go_upto_region 3 with fail
    refine source_r3 (bx := w.heap.size) (b := b) (off := off) (n := n) (cap := cap) (pc := pc) (ao := ao) (P := P) (G := G) (x := x) (fb := fb) rfl rfl rfl HCg.out HC.out HN.out HG.out hl hr HF.out ?_
    intro X W hb h6
    simp only [puts]
    rw [h6]
    generalize X 5 = x5
    generalize X 10 = x10
    generalize X 11 = x11
    generalize X 12 = x12
    generalize X 13 = x13
    generalize X 14 = x14
    generalize X 15 = x15
    generalize X 16 = x16
    generalize X 17 = x17
    have HB1 : Hid _ := HB0.out.trans (hb.mono HB0.out.size)
    clear hb h6 X
    cases fb
    · go_wp2
      go_ret
      exact ⟨by simp, HB1.out⟩
    · go_wp2
      go_ret
      exact ⟨by simp, HB1.out⟩
  · have HT : Hid (srcN G L = 71) := by
      show _ = _
      unfold srcN
      rw [if_neg (by omega)]
    rw [HT.out]
    have hb : ((pn : Int) != 1) = true := by simp; omega
    have HB0 : Hid _ := hB0
    clear hn hp hL hG HT hcg hB0
    go_enter Tryz.func196, Tryz.ntmps196
    go_wp2
    all_goals first | (exfalso; omega) | (go_ret; exact ⟨rfl, HB0.out⟩)
end Go.Proofs.YtidghoipmggklaaGreat
end

section
/- What Ref returns: the same graph, in new memory. -/
namespace Go.Proofs.YtidghoipmggklaaGreat
open Go.RowKit

/-- One append onto a row of the call's own, as one step of a region that draws. -/
theorem step_append_own {P : Program} {ops : Array Oper} {o : Oper} {a : Act} {w : World} {K : Act → World → Prop} {Q : Exit → Act → World → Prop} {E : Prop}
    (hg : o.guard = none) (s x : Operand) (t : TypeId) (hop : o.op = .call { callee := .builtin .append, args := #[s, x], argTypes := #[t, t] })
    (base : Nat) (e : TypeId) (i : TypeInfo) (z : Value) (size bytes : Nat) (ht : P.underlying t = some (.slice e)) (hi : P.info? e = some i) (hz : i.zero = some z)
    (hsize : i.size = size) (hby : i.bytes = bytes) (hzs : z.cells.size = size) (hsz : 0 < size)
    (v : Value) (n : Nat) (xs : List Value) (hs : a.eval s = v) (hown : w.ownsRow base e size v n xs)
    (ad : Addr) (m c : Nat) (news : List Value) (hx : a.eval x = .slice (some ad) m c) (hl : news.length = m * size) (hnews : ∀ j u, news[j]? = some u → w.cell? (ad.add j) = some u) (h1 : ∀ u ∈ news, u.oneCell' = true)
    (h63 : n + m ≤ maxLen) (hbytes : (n + m) * bytes ≤ 140737488355328) (hbase : base ≤ w.heap.size)
    (h : ∀ v' w', w'.ownsRow base e size v' (n + m) (xs ++ news) → w.grownBy w' v.ownBlock → (v'.ownBlock = v.ownBlock ∨ v'.ownBlock = some w.heap.size) → K (a.put o.dst v') w') :
    if Region.wanted o (yielded ops a.tmps) = true then Oper.wp P o a w K Q else E := by
  have hw : Region.wanted o (yielded ops a.tmps) = true := by simp [Region.wanted, hg]
  rw [if_pos hw]
  obtain ⟨v', w', hr, h2, h3, _, h5⟩ := run_append_own_at (P := P) w base t o.type e i z size bytes ht hi hz hsize hby hzs hsz v n xs hown ad m c news hl hnews h1 h63 hbytes hbase
  unfold Oper.wp execOp
  simp only [hop, resolve, invoke, builtin, Sem.run_bind, Sem.run_pure, Result.andThen_ok, List.map_toArray, List.map_cons, List.map_nil, hs, hx, hr]
  exact h v' w' h2 h3 h5
theorem own_new {w w' : World} {base : Nat} {e : TypeId} {size : Nat} {v : Value} {n : Nat} {xs : List Value} (h : w.ownsRow base e size v n xs) (hb : Below w.heap.size w w') : w'.ownsRow base e size v n xs := by
  refine ⟨h.1, ?_⟩
  rcases h.2 with hn | ⟨g, cap, cur, rfl, hbs, hgg, rest⟩
  · exact Or.inl hn
  · exact Or.inr ⟨g, cap, cur, rfl, hbs, (hb.block g (lt_of_block hgg)).trans hgg, rest⟩
theorem VRow.new {w w' : World} {base : Nat} {t : TypeId} {sv : Value} {G : List Vx} (h : VRow w base t sv G) (hb : Below w.heap.size w w') : VRow w' base t sv G := by
  obtain ⟨M, hl, ho, he⟩ := h.row
  exact ⟨M, hl, own_new ho hb, fun j h h' => (he j h h').new hb⟩
theorem infoREdge : (Tryz.prog.info? 195).map (fun i => (i.zero, i.size, i.bytes)) = some (some (.agg #[.int .i64 0, .int .i64 0]), 2, 16) := by kernel_rfl
theorem infoRVx : (Tryz.prog.info? 193).map (fun i => (i.zero, i.size, i.bytes)) = some (some (.agg #[.int .i64 0, .int .i64 0, .slice none 0 0]), 3, 40) := by kernel_rfl
theorem own_empty {w : World} {base : Nat} {t : TypeId} {size : Nat} (hb : base ≤ w.heap.size) : (w.alloc (.cells #[] t)).ownsRow base t size (.slice (some ⟨w.heap.size, 0, none⟩) 0 0) 0 [] := World.ownsRow_made w #[] 0 hb (by decide) (by simp)
theorem VRow.empty {w : World} {base : Nat} {t : TypeId} (hb : base ≤ w.heap.size) : VRow (w.alloc (.cells #[] t)) base t (.slice (some ⟨w.heap.size, 0, none⟩) 0 0) [] := ⟨[], rfl, own_empty hb, fun j h => absurd h (by simp)⟩
/-- Between two edges of a vertex. -/
structure RI (wo wx : World) (bv bx : Nat) (y : Vx) (eo : Option Addr) (ec : Nat) (ev : Value) (L : List Ed) : Prop where
  low : Below wo.heap.size wo wx
  vb : wx.heap[bv]? = some (.cells #[.int .i64 y.id, .int .i64 y.val, .slice eo y.es.length ec] 114 (0, 0))
  xb : wx.heap[bx]? = some (.cells #[.int .i64 y.id, .int .i64 y.val, ev] 193 (0, 0))
  own : wx.ownsRow (bx + 1) 195 2 ev L.length (ecs L)
  h1 : wo.heap.size ≤ bv
  h2 : bv < bx
section
variable {wo wx : World} {bv bx : Nat} {y : Vx} {eo : Option Addr} {ec : Nat} {ev : Value} {L : List Ed}
theorem RI.new (h : RI wo wx bv bx y eo ec ev L) {w1 : World} (hb : Below wx.heap.size wx w1) : RI wo w1 bv bx y eo ec ev L :=
  ⟨h.low.trans (hb.mono h.low.size), (hb.block _ (lt_of_block h.vb)).trans h.vb, (hb.block _ (lt_of_block h.xb)).trans h.xb, own_new h.own hb, h.h1, h.h2⟩
theorem RI.app (h : RI wo wx bv bx y eo ec ev L) {w1 : World} {ev' : Value} {x z : Int} (ho : w1.ownsRow (bx + 1) 195 2 ev' (L.length + 1) (ecs L ++ [.int .i64 x, .int .i64 z])) (hg : wx.grownBy w1 ev.ownBlock) : RI wo (w1.setCell ⟨bx, 2, none⟩ ev') bv bx y eo ec ev' (L ++ [⟨x, z⟩]) := by
  have h1 := h.h1
  have h2 := h.h2
  have f1 : Fr wx w1 (fun k => ev.ownBlock = some k) := Fr.grown hg (fun k hk => hk)
  have f2 : Fr w1 (w1.setCell ⟨bx, 2, none⟩ ev') (fun k => k = bx) := Fr.setCell (S := fun k => k = bx) w1 ⟨bx, 2, none⟩ ev' rfl
  have f : Fr wx (w1.setCell ⟨bx, 2, none⟩ ev') (fun k => bx ≤ k) := (f1.mono (T := fun k => bx ≤ k) (fun k _ hk => by have := (h.own.lt k hk).1; omega)).trans f2 (fun k _ hk => Nat.le_of_eq hk.symm)
  have hxb := (f1.block bx (lt_of_block h.xb) (fun hk => by have := (h.own.lt _ hk).1; omega)).trans h.xb
  refine ⟨h.low.trans (f.below (B := wo.heap.size) h.low.size (fun k hk => by omega)), (f.block bv (lt_of_block h.vb) (by omega)).trans h.vb, set3_2 hxb _, ?_, h.h1, h.h2⟩
  rw [ecs_snoc, List.length_append]
  exact ownsRow_setCell_other ho (fun e => Nat.lt_irrefl bx (ho.lt bx e).1) _
theorem RI.grew (h : RI wo wx bv bx y eo ec ev L) {w1 : World} (hg : wx.grownBy w1 ev.ownBlock) : w1.cell? ⟨bx, 2, none⟩ = some ev ∧ w1.frozen? ⟨bx, 2, none⟩ = false := by
  have f1 : Fr wx w1 (fun k => ev.ownBlock = some k) := Fr.grown hg (fun k hk => hk)
  have hxb := (f1.block bx (lt_of_block h.xb) (fun hk => by have := (h.own.lt _ hk).1; omega)).trans h.xb
  exact ⟨(box3 hxb).2.2, froz hxb⟩
theorem RI.facts (h : RI wo wx bv bx y eo ec ev L) : wx.cell? ⟨bv, 0, none⟩ = some (.int .i64 y.id) ∧ wx.cell? ⟨bv, 1, none⟩ = some (.int .i64 y.val) ∧ wx.cell? ⟨bv, 2, none⟩ = some (.slice eo y.es.length ec) ∧ wx.cell? ⟨bx, 0, none⟩ = some (.int .i64 y.id) ∧ wx.cell? ⟨bx, 1, none⟩ = some (.int .i64 y.val) ∧ wx.cell? ⟨bx, 2, none⟩ = some ev ∧ wx.frozen? ⟨bx, 2, none⟩ = false ∧ bv < wx.heap.size ∧ bx < wx.heap.size := by
  obtain ⟨a0, a1, a2⟩ := box3 h.vb
  obtain ⟨b0, b1, b2⟩ := box3 h.xb
  exact ⟨a0, a1, a2, b0, b1, b2, froz h.xb, lt_of_block h.vb, lt_of_block h.xb⟩
end

set_option maxRecDepth 100000 in
set_option maxHeartbeats 16000000 in
theorem ref_any {w : World} {P : Nat → Prop} {ao : Option Addr} (G : List Vx) (cap : Nat) (hG : VxAt w P ao G) (hok : ∀ v ∈ G, v.ok) (hl : G.length * 40 ≤ 140737488355328) :
    Calls Tryz.prog 46 #[.agg #[.slice ao G.length cap]] w fun r w' => ∃ bo c, r = .returned (.slice bo G.length c) ∧ VxAt w' (fun k => w.heap.size ≤ k) bo G ∧ Below w.heap.size w w' := by
  obtain ⟨i0, hi, hz0, hz1, hz2⟩ := info_parts infoREdge
  obtain ⟨i1, hj1, hy0, hy1, hy2⟩ := info_parts infoRVx
  have HG : Hid (VxAt w P ao G) := hG
  clear hG
  go_enter Tryz.func46, Tryz.ntmps46
  go_wp2
  go_loopw [3, 4, 5, 6, 7] (fun u i _ _ _ wr => ∃ (j : Nat), j ≤ G.length ∧ i = .int .i64 j ∧ VRow wr (w.heap.size + 1) 193 u (G.take j) ∧ wr.heap[w.heap.size]? = some (.cells #[.slice ao G.length cap] 24 (0, 0)) ∧ Below w.heap.size w wr) (fun _ i _ _ _ _ => G.length - (intOf i).toNat)
  case atStart =>
    refine ⟨0, Nat.zero_le _, rfl, ?_, (Below.heap_alloc _ _ _ (by simp)).trans (heap_alloc_new _ _), b2 _ _ _⟩
    have := VRow.empty (w := w.alloc (.cells #[.slice ao G.length cap] 24)) (base := w.heap.size + 1) (t := 193) (by simp)
    rw [World.size_alloc] at this
    exact this
  case round =>
    obtain ⟨j, hj, rfl, hRow, hgb, hb⟩ := hrel
    have c0 := cell_of_one hgb
    have hl0 := lt_of_block hgb
    by_cases hlt : j < G.length
    · obtain ⟨b, off, rfl, hP, hc⟩ := HG.out (by omega)
      obtain ⟨eo, ec, e0, e1, e2, e3⟩ := hc j hlt
      have hbb := lt_cell e0
      have d0 := (hb.cell (p := ⟨b, off + j * 3, none⟩) hbb).trans e0
      have d1 := (hb.cell (p := ⟨b, off + j * 3 + 1, none⟩) hbb).trans e1
      have d2 := (hb.cell (p := ⟨b, off + j * 3 + 2, none⟩) hbb).trans e2
      have HE : Hid (EdAt w P eo G[j].es) := e3
      have hlen : G[j].es.length ≤ 8796093022208 := (hok _ (List.getElem_mem hlt)).len
      have HS : Hid (G.take (j + 1) = G.take j ++ [G[j]]) := List.take_succ_eq_append_getElem hlt
      generalize G[j] = y at d0 d1 d2 HE hlen HS
      clear e0 e1 e2 e3 hc
      obtain ⟨wo, rfl⟩ : ∃ wo, wo = wr := ⟨_, rfl⟩
      have HR : Hid (VRow wo (w.heap.size + 1) 193 u3 (G.take j)) := hRow
      have hgo := hgb
      obtain ⟨bv, hbv⟩ : ∃ bv, wo.heap.size = bv := ⟨_, rfl⟩
      have hRI : RI wo ((wo.alloc (.cells #[.int .i64 y.id, .int .i64 y.val, .slice eo y.es.length ec] 114)).alloc (.cells #[.int .i64 y.id, .int .i64 y.val, .slice none 0 0] 193)) bv (bv + 1) y eo ec (.slice none 0 0) [] := by
        rw [← hbv]
        refine ⟨b2 _ _ _, (Below.heap_alloc _ _ _ (by simp)).trans (heap_alloc_new _ _), ?_, World.ownsRow_nil _ _ _ _, Nat.le_refl _, by omega⟩
        have := heap_alloc_new (wo.alloc (.cells #[.int .i64 y.id, .int .i64 y.val, .slice eo y.es.length ec] 114)) (.cells #[.int .i64 y.id, .int .i64 y.val, .slice none 0 0] 193)
        rw [World.size_alloc] at this
        exact this
      have HI : Hid _ := hRI
      clear hRI hRow hgo
      go_wp2
      go_loopw [7] (fun i wx => ∃ (k : Nat) (ev : Value), k ≤ y.es.length ∧ i = .int .i64 k ∧ RI wo wx bv (bv + 1) y eo ec ev (y.es.take k)) (fun i _ => y.es.length - (intOf i).toNat)
      case atStart => exact ⟨0, _, Nat.zero_le _, rfl, HI.out⟩
      case round =>
        obtain ⟨k, ev, hk, rfl, hX⟩ := hrel
        obtain ⟨a0, a1, a2, x0, x1, x2, x3, x4, x5⟩ := hX.facts
        have hbw : Below w.heap.size w wr := hb.trans (hX.low.mono hb.size)
        have g0 : wr.cell? ⟨w.heap.size, 0, none⟩ = some (.slice (some ⟨b, off, none⟩) G.length cap) := (hX.low.cell (p := ⟨w.heap.size, 0, none⟩) hl0).trans c0
        obtain ⟨fo, m, c, rfl⟩ := own_any hX.own
        by_cases hkl : k < y.es.length
        · obtain ⟨eb, eoff, rfl, hPe, hce⟩ := HE.out (by omega)
          have f0 := (hbw.cell (p := ⟨eb, eoff + k * 2, none⟩) (lt_cell (hce k hkl).1)).trans (hce k hkl).1
          have f1 := (hbw.cell (p := ⟨eb, eoff + k * 2 + 1, none⟩) (lt_cell (hce k hkl).1)).trans (hce k hkl).2
          have HT : Hid (y.es.take (k + 1) = y.es.take k ++ [y.es[k]]) := List.take_succ_eq_append_getElem hkl
          have HL : Hid ((y.es.take k).length = k) := by show _ = _; rw [List.length_take]; omega
          generalize y.es[k] = z at f0 f1 HT
          have HX : Hid _ := hX
          clear hX hce
          go_wp2
          go_region_law
            ((refine step_append_own rfl (.tmp 34) (.tmp 48) 191 rfl (bv + 1 + 1) 195 i0 (.agg #[.int .i64 0, .int .i64 0]) 2 16 Tryz.underlying191 hi hz0 hz1 hz2 rfl (by decide) (.slice fo m c) _ _ (by simp [Act.eval]) ((HX.out.new ((Below.refl _ _).drew)).new (one_new _ _)).own ⟨wr.heap.size, 0, none⟩ 1 1 [.int .i64 z.t, .int .i64 z.w] (by simp [Act.eval]) rfl (two_new (heap_alloc_new _ _)) (by intro u hu; simp at hu; rcases hu with rfl | rfl <;> rfl) (by rw [HL.out]; unfold maxLen; omega) (by rw [HL.out]; omega) (by simp; omega) ?_; intro v' w1 hown' hgrow hat; have hT4 := ((HX.out.new ((Below.refl _ _).drew)).new (one_new _ _)).app hown' hgrow; obtain ⟨q1, q2⟩ := ((HX.out.new ((Below.refl _ _).drew)).new (one_new _ _)).grew hgrow; obtain ⟨ao', m', c', rfl⟩ := own_any hown'; have H4 : Hid _ := hT4; clear hT4 hown' hgrow hat))
          all_goals
            go_wp2
            go_roundw
            case rel => exact ⟨k + 1, _, by omega, by go_num, by rw [HT.out]; exact H4.out⟩
            case measure => simp [intOf]; omega
        · obtain rfl : k = y.es.length := by omega
          rw [List.take_length] at hX
          obtain ⟨hm, hEd⟩ := own_eds hX.own
          subst hm
          have HU : Hid (∃ uo um uc, u3 = .slice uo um uc) := HR.out.any
          obtain ⟨uo, um, uc, rfl⟩ := HU.out
          have hRn := (HR.out.new hX.low).new (one_new wr (.cells #[.int .i64 y.id, .int .i64 y.val, .slice fo y.es.length c] 193))
          have hEn : EdAt (wr.alloc (.cells #[.int .i64 y.id, .int .i64 y.val, .slice fo y.es.length c] 193)) (fun k => w.heap.size + 1 ≤ k ∧ (Value.slice uo um uc).ownBlock ≠ some k) fo y.es := (hEd.new (one_new wr _)).mono (fun k _ hk => ⟨by have := hk.1; omega, fun e => by have := (HR.out.lt k e).2; have := hk.1; omega⟩)
          obtain ⟨M, ho, hgo2⟩ := hRn.app (ec := c) hEn
          have HL : Hid ((G.take j).length = j) := by show _ = _; rw [List.length_take]; omega
          have HX : Hid _ := hX
          have hnew := heap_alloc_new wr (.cells #[.int .i64 y.id, .int .i64 y.val, .slice fo y.es.length c] 193)
          clear hX hEd hRn hEn
          go_wp2_with (at_builtin; refine wpList_append_own_at _ rfl _ _ 32 rfl (w.heap.size + 1) 193 i1 (.agg #[.int .i64 0, .int .i64 0, .slice none 0 0]) 3 40 Tryz.underlying32 hj1 hy0 hy1 hy2 rfl (by decide) _ _ _ rfl ho ⟨wr.heap.size, 0, none⟩ 1 1 [.int .i64 y.id, .int .i64 y.val, .slice fo y.es.length c] rfl rfl ?c1 ?c2 ?c3 ?c4 ?c5 ?_)
          case c1 => exact three_new hnew
          case c2 => intro u hu; simp at hu; rcases hu with rfl | rfl | rfl <;> rfl
          case c3 => rw [HL.out]; unfold maxLen; omega
          case c4 => rw [HL.out]; omega
          case c5 => have := hbw.size; simp; omega
          · intro v' w4 hown' hgrow _ hat
            have hR4 := hgo2 w4 v' (by rw [HL.out]; exact hown') hgrow (by simpa using hat)
            have hb4 : Below w.heap.size w w4 := (hbw.alloc hbw.size _).grown hgrow (by have := hbw.size; simp; omega) (fun q hq => by have := (HR.out.lt q hq).1; omega)
            have hg4 : w4.heap[w.heap.size]? = some (.cells #[.slice (some ⟨b, off, none⟩) G.length cap] 24 (0, 0)) := (hgrow.block w.heap.size (by have := hbw.size; have := HX.out.low.size; simp; omega) (fun e => by have := (HR.out.lt _ e.symm).1; omega)).trans ((Below.heap_alloc _ _ _ (by have := HX.out.low.size; omega)).trans ((HX.out.low.block _ hl0).trans hgb))
            obtain ⟨ao', m', c', rfl⟩ := own_any hown'
            have H4 : Hid _ := hR4
            have H5 : Hid _ := hg4
            clear hR4 hg4 hown' hgrow hat ho hgo2
            go_wp2
            go_roundw
            case rel => exact ⟨j + 1, by omega, by go_num, by rw [HS.out]; exact H4.out, H5.out, hb4⟩
            case measure => simp [intOf]; omega
    · obtain rfl : j = G.length := by omega
      rw [List.take_length] at hRow
      obtain ⟨bo, m, c, rfl⟩ := hRow.any
      obtain ⟨rfl, hV⟩ := hRow.at_
      go_wp2
      go_ret
      exact ⟨bo, c, rfl, hV.mono (fun k _ hk => by omega), hb⟩
end Go.Proofs.YtidghoipmggklaaGreat
end
