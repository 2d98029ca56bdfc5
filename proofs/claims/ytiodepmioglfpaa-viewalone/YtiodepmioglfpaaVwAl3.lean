/- The world of one master, through the statement on it. -/
import Derived.Test.YtiodepmioglfpaaVwOne
namespace Go.Proofs.Ytiodepmioglfpaa
open Go.RowKit Go.Maps
attribute [local go_sem] Oper.semAt_some
section
variable {w w' : World} {S S' : Nat → Prop} {b p : Nat} {A A' : Nd} {g c0 gh c1 ma : Nat} {vv : Value}
theorem AW.new (h : AW w S b p A g c0 gh c1 ma vv) (hb : Below w.heap.size w w') : AW w' S b p A g c0 gh c1 ma vv := by
  obtain ⟨x, hx⟩ := h.h
  exact ⟨(hb.block b (vlt_blk h.box)).trans h.box, h.l.new hb, ⟨x, hx.new hb⟩, h.nd.new hb, h.nb, h.ng, h.nh⟩
theorem AW.step (h : AW w S b p A g c0 gh c1 ma vv) (f : Fr w w' S) (hN : AS w' S' p A') (hS : ∀ k, S' k → S k ∨ w.heap.size ≤ k) : AW w' S' b p A' g c0 gh c1 ma vv := by
  obtain ⟨x, hx⟩ := h.h
  have lb := vlt_blk h.box
  have lg := h.l.lt (k := g) rfl
  have lh := hx.lt (k := gh) rfl
  refine ⟨(f.block b lb h.nb).trans h.box, h.l.kept f (fun k hk => by cases hk; exact h.ng), ⟨x, hx.kept f (fun k hk => by cases hk; exact h.nh)⟩, hN, fun s => ?_, fun s => ?_, fun s => ?_⟩
  · rcases hS _ s with s | s
    · exact h.nb s
    · omega
  · rcases hS _ s with s | s
    · exact h.ng s
    · omega
  · rcases hS _ s with s | s
    · exact h.nh s
    · omega
end
structure AL3 (w0 w : World) (b p : Nat) (A : Nd) (g c0 gh c1 ma : Nat) (vv : Value) : Prop where
  ex : ∃ S, AW w S b p A g c0 gh c1 ma vv ∧ ∀ k, S k → w0.heap.size ≤ k
  low : Below w0.heap.size w0 w
  hb : w0.heap.size ≤ b
  hg : w0.heap.size ≤ g
  hh : w0.heap.size ≤ gh
section
variable {w0 w w' : World} {b p : Nat} {A : Nd} {g c0 gh c1 ma : Nat} {vv : Value}
theorem AL3.new (h : AL3 w0 w b p A g c0 gh c1 ma vv) (hb : Below w.heap.size w w') : AL3 w0 w' b p A g c0 gh c1 ma vv := by
  obtain ⟨S, h1, h2⟩ := h.ex
  exact ⟨⟨S, h1.new hb, h2⟩, h.low.trans (hb.mono h.low.size), h.hb, h.hg, h.hh⟩
theorem AL3.dn (h : AL3 w0 w b p A g c0 gh c1 ma vv) (q : Nat) : AL3 w0 (w.drewN q) b p A g c0 gh c1 ma vv := h.new (below_dn w q)
theorem AL3.alone (h : AL3 w0 w b p A g c0 gh c1 ma vv) : Alone A := by
  obtain ⟨S, h1, _⟩ := h.ex
  exact h1.nd.2
theorem AL3.cells (h : AL3 w0 w b p A g c0 gh c1 ma vv) : w.cell? ⟨b, 0, none⟩ = some (.slice (some ⟨g, 0, none⟩) 1 c0) ∧ w.cell? ⟨g, 0, none⟩ = some (.pointer (some ⟨p, 0, none⟩)) := by
  obtain ⟨S, h1, _⟩ := h.ex
  exact ⟨vcell_blk h1.box, h1.l.at_ 0 (by simp)⟩
theorem AL3.begun (w : World) : Calls Try.prog 37 #[.int .i64 1] w fun r w' => ∃ (b p g c0 gh c1 ma : Nat) (vv : Value), r = .returned (.tuple #[.pointer (some ⟨b, 0, none⟩), .bool true]) ∧ AL3 w w' b p (Nd.born 0 1 0 0 0 0 (str []) []).counted g c0 gh c1 ma vv := by
  refine (begun_one w).mono ?_
  rintro r w' ⟨S, b, p, g, c0, gh, c1, ma, vv, rfl, h1, h2, h3, h4, h5, h6⟩
  exact ⟨b, p, g, c0, gh, c1, ma, vv, rfl, ⟨S, h1, h2⟩, h6, h3, h4, h5⟩
theorem AL3.propose (h : AL3 w0 w b p A g c0 gh c1 ma vv) (hl : A.log.length < 1000) (s : ByteArray) : Calls Try.prog 32 #[.pointer (some ⟨p, 0, none⟩), .string s] w fun r w' => r = .returned (.tuple #[.int .i64 (A.last + 1), .slice none 0 0, .bool true]) ∧ AL3 w0 w' b p (A.proposed s) g c0 gh c1 ma vv := by
  obtain ⟨S, h1, h2⟩ := h.ex
  have hs := h.low.size
  refine (propose_as h1.nd hl s).mono ?_
  rintro r w' ⟨rfl, k1, k2⟩
  refine ⟨rfl, ⟨_, h1.step k2 k1 (fun k h => h), fun k hk => ?_⟩, h.low.trans (k2.below hs h2), h.hb, h.hg, h.hh⟩
  rcases hk with hk | hk
  · exact h2 k hk
  · omega
theorem AL3.tick (h : AL3 w0 w b p A g c0 gh c1 ma vv) (ht : A.tk ≤ 2) : Calls Try.prog 31 #[.pointer (some ⟨p, 0, none⟩)] w fun r w' => ∃ t, r = .returned (.slice none 0 0) ∧ AL3 w0 w' b p (A.tkd t) g c0 gh c1 ma vv ∧ t ≤ 2 := by
  obtain ⟨S, h1, h2⟩ := h.ex
  refine (tick_as h1.nd ht).mono ?_
  rintro r w' ⟨t, rfl, k1, _, k3, k4⟩
  exact ⟨t, rfl, ⟨⟨_, h1.step k4 k1 (fun k h => .inl h), h2⟩, h.low.trans (k4.below h.low.size h2), h.hb, h.hg, h.hh⟩, k3⟩
theorem AL3.one (h : AL3 w0 w b p A g c0 gh c1 ma vv) : Calls Try.prog 40 #[.pointer (some ⟨b, 0, none⟩), .agg #[.int .i64 10, .int .i64 0, .int .i64 0], .int .i64 0] w fun r w' => r = .returned (.bool true) ∧ ∃ p', AL3 w0 w' b p' A.again g c0 gh c1 ma vv := by
  obtain ⟨S, h1, h2⟩ := h.ex
  have hs := h.low.size
  refine (one_ten (B := w0.heap.size) h1 h.hb h.hg h.hh hs).mono ?_
  rintro r w' ⟨rfl, ⟨S', p', k1, k3⟩, k2⟩
  exact ⟨rfl, p', ⟨S', k1, k3⟩, h.low.trans k2, h.hb, h.hg, h.hh⟩
theorem AL3.role (h : AL3 w0 w b p A g c0 gh c1 ma vv) : Calls Try.prog 34 #[.pointer (some ⟨p, 0, none⟩)] w fun r w' => r = .returned (.int .i64 3) ∧ ∃ q, w' = w.drewN q := by
  obtain ⟨S, h1, _⟩ := h.ex
  exact role_as h1.nd
theorem AL3.leader (h : AL3 w0 w b p A g c0 gh c1 ma vv) : Calls Try.prog 36 #[.pointer (some ⟨p, 0, none⟩)] w fun r w' => r = .returned (.int .i64 0) ∧ ∃ q, w' = w.drewN q := by
  obtain ⟨S, h1, _⟩ := h.ex
  exact leader_as h1.nd
theorem AL3.view (h : AL3 w0 w b p A g c0 gh c1 ma vv) : Calls Try.prog 27 #[.pointer (some ⟨p, 0, none⟩)] w fun r w' => r = .returned (.int .i64 0) ∧ ∃ q, w' = w.drewN q := by
  obtain ⟨S, h1, _⟩ := h.ex
  exact view_as h1.nd
theorem AL3.commit (h : AL3 w0 w b p A g c0 gh c1 ma vv) : Calls Try.prog 26 #[.pointer (some ⟨p, 0, none⟩)] w fun r w' => r = .returned (.int .i64 A.last) ∧ ∃ q, w' = w.drewN q := by
  obtain ⟨S, h1, _⟩ := h.ex
  exact commit_as h1.nd
theorem AL3.ready (h : AL3 w0 w b p A g c0 gh c1 ma vv) (hh : A.had ≤ A.last) : Calls Try.prog 35 #[.pointer (some ⟨p, 0, none⟩)] w fun r w' => r = .returned (.bool true) ∧ ∃ q, w' = w.drewN q := by
  obtain ⟨S, h1, _⟩ := h.ex
  exact ready_as h1.nd hh
theorem AL3.entry (h : AL3 w0 w b p A g c0 gh c1 ma vv) {j : Nat} (hj : j < A.log.length) {ix : Int} (hix : ix - A.bi - 1 = j) : Calls Try.prog 29 #[.pointer (some ⟨p, 0, none⟩), .int .i64 ix] w fun r w' => r = .returned (.tuple #[.agg #[.int .i64 A.log[j].v, .string A.log[j].s], .bool true]) ∧ Below w.heap.size w w' := by
  obtain ⟨S, h1, _⟩ := h.ex
  exact entry_as h1.nd hj hix
end
end Go.Proofs.Ytiodepmioglfpaa
