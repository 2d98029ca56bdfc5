/- Requests as they are asked; Do, whole; two tables side by side. -/
import Derived.Test.YtdnakakichblgaaSsAw
import Derived.Test.YtdnakakichblgaaSsTake
namespace Go.Proofs.Ytdnakakichblgaa
open Go.RowKit
attribute [local go_sem] Oper.semAt_some
/-- A request that is asked. -/
structure Ak where
  k : Int
  n : Int
  lk : Bool
  s : ByteArray
/-- Asks that can be read. -/
def AkS (w : World) (v : Value) (X : List Ak) : Prop := ∃ ao cap, v = .slice ao X.length cap ∧ (0 < X.length → ∃ b off, ao = some ⟨b, off, none⟩ ∧ ∀ j (h : j < X.length), w.cell? ⟨b, off + j * 4, none⟩ = some (.int .i64 X[j].k) ∧ w.cell? ⟨b, off + j * 4 + 1, none⟩ = some (.int .i64 X[j].n) ∧ w.cell? ⟨b, off + j * 4 + 2, none⟩ = some (.bool X[j].lk) ∧ w.cell? ⟨b, off + j * 4 + 3, none⟩ = some (.string X[j].s))
/-- An ask that the law takes. -/
def Ak.ok (x : Ak) : Prop := I64 x.k ∧ x.n ≤ 9223372036854775807 ∧ x.s.size ≤ 1048576
theorem sbox4 {W : World} {q : Nat} {t : TypeId} {x0 x1 x2 x3 : Value} (h : W.heap[q]? = some (.cells #[x0, x1, x2, x3] t (0, 0))) : W.cell? ⟨q, 0, none⟩ = some x0 ∧ W.cell? ⟨q, 1, none⟩ = some x1 ∧ W.cell? ⟨q, 2, none⟩ = some x2 ∧ W.cell? ⟨q, 3, none⟩ = some x3 := by
  refine ⟨?_, ?_, ?_, ?_⟩ <;> simp [World.cell?, h]
/-- What Do tells, and what it leaves. -/
def doA (L : List Req) (k n : Int) (s : ByteArray) : ByteArray × Bool × Int := if (lookR L k n).2.1 = false ∧ (lookR L k n).2.2 = 0 then (s, true, 0) else ((lookR L k n).1, false, (lookR L k n).2.2)
def doL (L : List Req) (k n : Int) (s : ByteArray) : List Req := if (lookR L k n).2.1 = false ∧ (lookR L k n).2.2 = 0 then putR L ⟨k, n, s⟩ else L
theorem doL_tab {L : List Req} (h : Tab L) (k n : Int) (s : ByteArray) : Tab (doL L k n s) := by
  unfold doL
  split
  · rename_i hf
    exact h.put s hf
  · exact h
/-- Sessions whose numbers and texts are small. -/
def Okq (L : List Req) (c : Nat) : Prop := ∀ x ∈ L, I64 x.k ∧ x.n ≤ c ∧ x.s.size ≤ 1048576
theorem last_le {L : List Req} (h : RiseQ L) {c : Nat} (ho : Okq L c) (k : Int) : (lastR L k).n ≤ c := by
  rcases parts h k with ⟨A, x, C, rfl, rfl, hA, hC⟩ | ⟨A, C, rfl, hA, hC⟩
  · rw [in_last hA hC]
    exact (ho x (by simp)).2.1
  · rw [out_last hA hC]
    show (0 : Int) ≤ c
    omega
theorem doL_ok {L : List Req} (h : Tab L) {c : Nat} (ho : Okq L c) {k n : Int} {s : ByteArray} (hk : I64 k) (hs : s.size ≤ 1048576) : Okq (doL L k n s) (c + 1) := by
  have hup : Okq L (c + 1) := fun x hx => ⟨(ho x hx).1, by have := (ho x hx).2.1; omega, (ho x hx).2.2⟩
  unfold doL
  split
  · rename_i hf
    intro x hx
    rcases put_mem h.rise hx with rfl | hx
    · have h1 := last_le h.rise ho k
      refine ⟨hk, ?_, hs⟩
      show n ≤ _
      rcases fresh_is hf with h2 | h2 <;> omega
    · exact hup x hx
  · exact hup
theorem sdo {w : World} {B p : Nat} {v : Value} {L : List Req} (h : TA w B p v L) (hT : Tab L) {k n : Int} (hn : n ≤ 9223372036854775807) {g : Nat} {cb : Array Value} {s : ByteArray} (hD : ∀ W, Fr w W (fun k => k = p ∨ v.ownBlock = some k) → Tells g cb s W) :
    Calls Try.prog 10 #[.pointer (some ⟨p, 0, none⟩), .int .i64 k, .int .i64 n, .func (.func g) #[] cb] w fun r w' => r = .returned (.tuple #[.string (doA L k n s).1, .bool (doA L k n s).2.1, .int .i64 (doA L k n s).2.2]) ∧ TTo w w' B p v (doL L k n s) := by
  unfold doA doL
  split
  · rename_i hf
    exact sdo_fresh h hT hn hf hD
  · rename_i hf
    exact (sdo_old h hT hn hf _).mono fun r w' ⟨h1, h2⟩ => ⟨h1, TTo.same h h2⟩
theorem reqsN_le {L : List Req} {c : Nat} (h : Okq L c) : reqsN L ≤ L.length * 1048616 := by
  induction L with
  | nil => simp [reqsN]
  | cons x L ih =>
    have h1 := (h x (by simp)).2.2
    have h2 := ih (fun y hy => h y (List.mem_cons_of_mem _ hy))
    unfold reqsN at h2 ⊢
    rw [List.map_cons, List.sum_cons, List.length_cons]
    omega
theorem TA.lower {w : World} {B C p : Nat} {v : Value} {L : List Req} (h : TA w B p v L) (hC : C ≤ B) : TA w C p v L := by
  refine ⟨h.box, Nat.le_trans hC h.low, h.row.1, ?_⟩
  rcases h.row.2 with h2 | ⟨g, cap, cur, rfl, h3, h4⟩
  · exact .inl h2
  · exact .inr ⟨g, cap, cur, rfl, Nat.le_trans hC h3, h4⟩
/-- A call on a table whose blocks are all new leaves what is old. -/
theorem TTo.below {w0 w w' : World} {p : Nat} {v : Value} {L M : List Req} (h : TA w w0.heap.size p v L) (hb : Below w0.heap.size w0 w) (ht : TTo w w' w0.heap.size p v M) : Below w0.heap.size w0 w' := by
  obtain ⟨_, _, hf, _⟩ := ht
  exact hb.trans (hf.below hb.size (fun k hk => by
    rcases hk with hk | hk
    · have := h.low; omega
    · exact (h.row.lt k hk).1))
/-- Two tables side by side. -/
structure TT (w : World) (B p q : Nat) (v u : Value) (L : List Req) : Prop where
  a : TA w B p v L
  b : TA w B q u L
  ne : p ≠ q
  rows : ∀ k, v.ownBlock = some k → u.ownBlock ≠ some k
theorem TA.tag {w : World} {B p : Nat} {v : Value} {L : List Req} {C q : Nat} {u : Value} {M : List Req} (h : TA w B p v L) (h2 : TA w C q u M) : u.ownBlock ≠ some p := fun e => by
  obtain ⟨_, c, f, hk⟩ := srow_tag h2.row e
  rw [h.box] at hk
  simp at hk
/-- A call on one of two tables leaves the other. -/
theorem other_kept {w w' : World} {B p q : Nat} {v u : Value} {L M N : List Req} (h : TA w B p v L) (h2 : TA w B q u M) (ne : p ≠ q) (rows : ∀ k, v.ownBlock = some k → u.ownBlock ≠ some k) (ht : TTo w w' B p v N) : ∃ v', TA w' B p v' N ∧ TA w' B q u M ∧ (∀ k, v'.ownBlock = some k → u.ownBlock ≠ some k) := by
  obtain ⟨v', h1, hf, hr⟩ := ht
  refine ⟨v', h1, h2.kept hf (fun e => ?_) (fun k hk e => ?_), fun k hk e => ?_⟩
  · rcases e with e | e
    · exact ne e.symm
    · exact h2.tag h e
  · rcases e with e | e
    · subst e; exact h.tag h2 hk
    · exact rows k e hk
  · rcases hr with hr | ⟨g, hr, hg⟩
    · exact rows k (hr ▸ hk) e
    · rw [hr] at hk
      cases hk
      have := (h2.row.lt _ e).2
      omega
/-- The functions that the laws hand in. -/
theorem tells_b1 {W : World} {q : Nat} {s : ByteArray} (h : W.cell? ⟨q, 3, none⟩ = some (.string s)) : Tells 26 #[.pointer (some ⟨q, 0, none⟩)] s W := by
  refine ⟨fun _ _ => rfl, ?_⟩
  go_enter Try.func26, Try.ntmps26
  go_wp2
  go_ret
  exact ⟨rfl, Below.refl _ _⟩
theorem tells_b2 {W : World} {q : Nat} {s : ByteArray} (h : W.cell? ⟨q, 3, none⟩ = some (.string s)) : Tells 27 #[.pointer (some ⟨q, 0, none⟩)] s W := by
  refine ⟨fun _ _ => rfl, ?_⟩
  go_enter Try.func27, Try.ntmps27
  go_wp2
  go_ret
  exact ⟨rfl, Below.refl _ _⟩
theorem tells_b3 {W : World} {q : Nat} {s : ByteArray} (h : W.cell? ⟨q, 3, none⟩ = some (.string s)) : Tells 28 #[.pointer (some ⟨q, 0, none⟩)] s W := by
  refine ⟨fun _ _ => rfl, ?_⟩
  go_enter Try.func28, Try.ntmps28
  go_wp2
  go_ret
  exact ⟨rfl, Below.refl _ _⟩
theorem tells_o1 {W : World} {q : Nat} {s : ByteArray} (h : W.cell? ⟨q, 3, none⟩ = some (.string s)) : Tells 11 #[.pointer (some ⟨q, 0, none⟩)] s W := by
  refine ⟨fun _ _ => rfl, ?_⟩
  go_enter Try.func11, Try.ntmps11
  go_wp2
  go_ret
  exact ⟨rfl, Below.refl _ _⟩
/-- A box that is new is left by a call on a table. -/
theorem box_left {w W : World} {B p : Nat} {v : Value} {L : List Req} {q : Nat} {cs : Array Value} (h : TA w B p v L) (hq : w.heap[q]? = some (.cells cs 28 (0, 0))) (hf : Fr w W (fun k => k = p ∨ v.ownBlock = some k)) : W.heap[q]? = some (.cells cs 28 (0, 0)) := by
  refine (hf.block q (slt_blk hq) (fun e => ?_)).trans hq
  rcases e with e | e
  · have h1 := h.box
    rw [← e, hq] at h1
    simp at h1
  · obtain ⟨_, c, f, hk⟩ := srow_tag h.row e
    rw [hq] at hk
    simp at hk
theorem len_two {w : World} {B p q : Nat} {v u : Value} {L : List Req} (h : TT w B p q v u L) (x : Nat) (hx : x = p ∨ x = q) : Calls Try.prog 13 #[.pointer (some ⟨x, 0, none⟩)] w fun r w' => r = .returned (.int .i64 L.length) ∧ w' = w := by
  rcases hx with rfl | rfl
  · exact slen h.a
  · exact slen h.b
theorem TT.new {w w' : World} {B p q : Nat} {v u : Value} {L : List Req} (h : TT w B p q v u L) (hb : Below w.heap.size w w') : TT w' B p q v u L := ⟨h.a.new hb, h.b.new hb, h.ne, h.rows⟩
theorem tab_len {L : List Req} (h : Tab L) {c : Nat} (ho : Okq L c) (hc : c ≤ 2147483647) : (tabB L).length ≤ 67111434 := by
  have h1 : (L.flatMap reqB).length ≤ reqsN L := reqs_len L (fun x hx => ⟨(ho x hx).1, by have := (ho x hx).2.1; omega, by have := (ho x hx).2.2; omega⟩)
  have h2 := reqsN_le ho
  have h3 := h.few
  have h4 : (numB L.length).length ≤ 10 := numB_len10 (by omega)
  unfold tabB
  rw [List.length_append]
  omega
/-- What was put is taken again. -/
theorem stake_enc {w : World} {p : Nat} {L : List Req} (hT : Tab L) {c : Nat} (ho : Okq L c) (hc : c ≤ 2147483647) (h : Rd w p (str (tabB L)) 0 0) : Calls Try.prog 21 #[.pointer (some ⟨p, 0, none⟩)] w fun r w' =>
    r = .returned (.pointer (some ⟨w.heap.size, 0, none⟩)) ∧ Rd w' p (str (tabB L)) (tabB L).length 0 ∧ (∃ v, TA w' w.heap.size w.heap.size v L) ∧ Fr w w' (fun k => k = p) := by
  have e := rdTab_enc (s := str (tabB L)) (L := L) rfl hT (fun x hx => ⟨(ho x hx).1, by have := (ho x hx).2.1; omega, by have := (ho x hx).2.2; omega⟩)
  have hl := tab_len hT ho hc
  have hs : (str (tabB L)).size = (tabB L).length := rfl
  have := stake (a := 0) h (by rw [hs]; unfold maxLen; omega) (Nat.zero_le _)
  rw [e] at this
  simp only [if_pos] at this
  rw [hs] at this
  exact this
end Go.Proofs.Ytdnakakichblgaa
