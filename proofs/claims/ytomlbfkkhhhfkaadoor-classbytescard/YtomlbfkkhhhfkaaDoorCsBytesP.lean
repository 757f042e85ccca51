/-
  Right by the page is right; bytes that are cut off, or more: plain facts.
-/
import Derived.Test.YtomlbfkkhhhfkaaDoorCsUnq
import Derived.Test.YtomlbfkkhhhfkaaDoorCsFew2
import Derived.Test.YtomlbfkkhhhfkaaDoorCsRight12
namespace Go.Proofs.YtomlbfkkhhhfkaaDoor.Fc
set_option linter.unusedVariables false

theorem class_iff (x : ByteArray) : RightP ⟨x, ⟨#[]⟩, [], []⟩ ↔ classB x = true :=
  ⟨fun h => h.name, fun h => ⟨h, .inl rfl, Nat.zero_le _, Nat.zero_le _, fun k y hk => by simp at hk, fun k y hk => by simp at hk⟩⟩
theorem fd_iff (x : Fd) : RightP ⟨x.2, ⟨#[]⟩, [x.1], []⟩ ↔ FdS x := by
  constructor
  · intro h
    obtain ⟨a, b, c⟩ := h.fs 0 x.1 rfl
    exact ⟨h.name, ltS_pos a, b, c⟩
  · rintro ⟨a, b, c, d⟩
    refine ⟨a, .inl rfl, by show 1 ≤ 200; omega, Nat.zero_le _, fun k y hk => ?_, fun k y hk => by simp at hk⟩
    match k, hk with
    | 0, hk =>
      simp at hk; subst hk
      exact ⟨ltS_nil b, c, d⟩
    | k + 1, hk => simp at hk
theorem mt_iff (x : Mt) : RightP ⟨x.2, ⟨#[]⟩, [], [x.1]⟩ ↔ MtS x := by
  constructor
  · intro h
    exact ⟨h.name, ⟨by show classB ⟨#[65]⟩ = true; unfold classB greatB; decide +kernel, .inl rfl, Nat.zero_le _, by show 1 ≤ 200; omega, fun k y hk => by simp at hk, h.ms⟩⟩
  · rintro ⟨a, h⟩
    exact ⟨a, .inl rfl, Nat.zero_le _, by show 1 ≤ 200; omega, fun k y hk => by simp at hk, h.ms⟩
theorem right_iff {f : Fl} (h : FewF f) : RightS f ↔ RightF f := by
  constructor
  · intro r
    exact ⟨r.fc, ⟨by have := h.nu; omega, ⟨by have := h.cl; omega, fun x hx => (class_iff x).2 (r.cl x hx)⟩, ⟨by have := h.ty; omega, r.ty⟩, ⟨by have := h.fd; omega, fun x hx => (fd_iff x).2 (r.fd x hx)⟩, ⟨by have := h.mt; omega, fun x hx => (mt_iff x).2 (r.mt x hx)⟩⟩, r.ln, r.bd⟩
  · intro r
    obtain ⟨_, ⟨_, b⟩, ⟨_, c⟩, ⟨_, d⟩, ⟨_, e⟩⟩ := r.po
    exact ⟨r.fc, r.ln, fun x hx => (class_iff x).1 (b x hx), c, fun x hx => (fd_iff x).1 (d x hx), fun x hx => (mt_iff x).1 (e x hx), r.bd⟩
theorem right_ints {f : Fl} (h : RightF f) : ∀ b ∈ f.bd, OkI b.lo ∧ OkI b.st ∧ ∀ x ∈ b.co, OkI x.1 ∧ OkI x.2 := by
  intro b hb
  obtain ⟨⟨h1, h2⟩, ⟨h3, h4⟩, _, h5⟩ := right_bd h b hb
  refine ⟨⟨by omega, by omega⟩, ⟨by omega, by omega⟩, fun x hx => ?_⟩
  obtain ⟨g1, g2, g3⟩ := h5 x hx
  refine ⟨⟨by omega, by omega⟩, ?_⟩
  split at g3
  · exact ⟨by omega, by omega⟩
  · exact ⟨by omega, by omega⟩
theorem dec_cut {f : Fl} (h : RightF f) (hn : ∀ z ∈ f.nu, OkI z) {m : Nat} (hm : m < (flB f).length) : ¬ DecOk ((flB f).take m) := by
  rintro ⟨h1, h2⟩
  have h3 := (fl_inj h h1 hn (rdfl_ok _) (r := []) (r' := (flB f).drop m) (by rw [List.append_nil, h2, List.take_append_drop])).2
  have h4 := congrArg List.length h3
  simp only [List.length_nil, List.length_drop] at h4
  omega
theorem dec_more {f : Fl} (h : RightF f) (hn : ∀ z ∈ f.nu, OkI z) : ¬ DecOk (flB f ++ [0]) := by
  rintro ⟨h1, h2⟩
  have h3 := (fl_inj h h1 hn (rdfl_ok _) (r := [0]) (r' := []) (by rw [List.append_nil, h2])).2
  cases h3
theorem flB_pos (f : Fl) : 0 < (flB f).length := by
  have := sB_pos f.fc.name
  unfold flB fcB
  simp only [List.length_append]
  omega
theorem decode14s (s : ByteArray) (w : World) (hs : s.size ≤ 140737488355328) (hT : TabR w) : Calls Tryd.prog 14 #[.string s] w (DecV (bl s) w) := by
  have h := decode14 (bl s) w (by rw [bl_len]; exact hs) hT
  have e : (⟨(bl s).toArray⟩ : ByteArray) = s := by cases s; simp [bl]
  rwa [e] at h
end Go.Proofs.YtomlbfkkhhhfkaaDoor.Fc
