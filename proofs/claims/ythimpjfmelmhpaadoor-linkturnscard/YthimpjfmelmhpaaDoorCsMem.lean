/-
  Files in memory; classes' names, fields and methods alone.
-/
import Derived.Test.YthimpjfmelmhpaaDoorCsIns
import Derived.Test.YthimpjfmelmhpaaDoorFcRightP
namespace Go.Proofs.YthimpjfmelmhpaaDoor.Fc
open Go.RowKit
set_option linter.unusedVariables false

/-- a field, and whose it is -/
abbrev Fd := Vr × ByteArray
/-- a method, and whose it is -/
abbrev Mt := Sg × ByteArray
structure Bd where
  lo : Int
  st : Int
  co : List (Int × Int)
structure Fl where
  fc : Fc
  nu : List Int
  cl : List ByteArray
  ty : List Ty
  fd : List Fd
  mt : List Mt
  bd : List Bd

theorem pl_int (k : IntKind) (s : Int) : Pl (.int k s) := fun _ h => by cases h
def NmR (n : Int) (cs : List Value) : Prop := cs = [.int .i64 n]
def InR (x : Int × Int) (cs : List Value) : Prop := cs = [.int .i64 x.1, .int .i64 x.2]
def FdR (x : Fd) (cs : List Value) : Prop := cs = [.string x.1.name, .string x.1.tn, .bool x.1.ta, .string x.2]
def MtR (W : World) (x : Mt) (cs : List Value) : Prop := ∃ a n c, cs = [.string x.1.name, .bool x.1.st, .slice a n c, .string x.1.rn, .bool x.1.ra, .string x.2] ∧ Sl W 2 TyR x.1.ps (.slice a n c)
def BdR (W : World) (x : Bd) (cs : List Value) : Prop := ∃ a n c, cs = [.int .i64 x.lo, .int .i64 x.st, .slice a n c] ∧ Sl W 2 InR x.co (.slice a n c)
theorem NmR.pl {s : Int} {cs : List Value} (h : NmR s cs) : ∀ v ∈ cs, Pl v := by
  rw [h]; intro v hv; simp at hv; subst hv; exact pl_int _ _
theorem InR.pl {s : Int × Int} {cs : List Value} (h : InR s cs) : ∀ v ∈ cs, Pl v := by
  rw [h]; intro v hv; simp at hv; rcases hv with rfl | rfl <;> exact pl_int _ _
theorem FdR.pl {s : Fd} {cs : List Value} (h : FdR s cs) : ∀ v ∈ cs, Pl v := by
  rw [h]; intro v hv; simp at hv; rcases hv with rfl | rfl | rfl | rfl; exact pl_str _; exact pl_str _; exact pl_bool _; exact pl_str _
theorem MtR.pl {W : World} {s : Mt} {cs : List Value} (h : MtR W s cs) : ∀ v ∈ cs, Pl v := by
  obtain ⟨a, n, c, rfl, _⟩ := h
  intro v hv; simp at hv; rcases hv with rfl | rfl | rfl | rfl | rfl | rfl; exact pl_str _; exact pl_bool _; exact pl_slice _ _ _; exact pl_str _; exact pl_bool _; exact pl_str _
theorem BdR.pl {W : World} {s : Bd} {cs : List Value} (h : BdR W s cs) : ∀ v ∈ cs, Pl v := by
  obtain ⟨a, n, c, rfl, _⟩ := h
  intro v hv; simp at hv; rcases hv with rfl | rfl | rfl; exact pl_int _ _; exact pl_int _ _; exact pl_slice _ _ _
theorem nms_keep {W w : World} {xs : List Int} {v : Value} (hw : Keeps W w) (h : Sl W 1 NmR xs v) : Sl w 1 NmR xs v := h.mono hw (fun _ _ h => ⟨h, h.pl⟩)
theorem ins_keep {W w : World} {xs : List (Int × Int)} {v : Value} (hw : Keeps W w) (h : Sl W 2 InR xs v) : Sl w 2 InR xs v := h.mono hw (fun _ _ h => ⟨h, h.pl⟩)
theorem fds_keep {W w : World} {xs : List Fd} {v : Value} (hw : Keeps W w) (h : Sl W 4 FdR xs v) : Sl w 4 FdR xs v := h.mono hw (fun _ _ h => ⟨h, h.pl⟩)
theorem MtR.keep {W w : World} {m : Mt} {cs : List Value} (hw : Keeps W w) (h : MtR W m cs) : MtR w m cs := by
  obtain ⟨a, n, c, e, h⟩ := h; exact ⟨a, n, c, e, tys_keep hw h⟩
theorem BdR.keep {W w : World} {m : Bd} {cs : List Value} (hw : Keeps W w) (h : BdR W m cs) : BdR w m cs := by
  obtain ⟨a, n, c, e, h⟩ := h; exact ⟨a, n, c, e, ins_keep hw h⟩
theorem mts_keep {W w : World} {xs : List Mt} {v : Value} (hw : Keeps W w) (h : Sl W 6 (MtR W) xs v) : Sl w 6 (MtR w) xs v := h.mono hw (fun _ _ h => ⟨h.keep hw, h.pl⟩)
theorem bds_keep {W w : World} {xs : List Bd} {v : Value} (hw : Keeps W w) (h : Sl W 3 (BdR W) xs v) : Sl w 3 (BdR w) xs v := h.mono hw (fun _ _ h => ⟨h.keep hw, h.pl⟩)

/-- a pool's five slices -/
structure PoR (W : World) (f : Fl) (v1 v2 v3 v4 v5 : Value) : Prop where
  nu : Sl W 1 NmR f.nu v1
  cl : Sl W 1 StrR f.cl v2
  ty : Sl W 2 TyR f.ty v3
  fd : Sl W 4 FdR f.fd v4
  mt : Sl W 6 (MtR W) f.mt v5
theorem PoR.keep {W w : World} {f : Fl} {v1 v2 v3 v4 v5 : Value} (hw : Keeps W w) (h : PoR W f v1 v2 v3 v4 v5) : PoR w f v1 v2 v3 v4 v5 :=
  ⟨nms_keep hw h.nu, strs_keep hw h.cl, tys_keep hw h.ty, fds_keep hw h.fd, mts_keep hw h.mt⟩

theorem strc (s : ByteArray) (w : World) : FcR w ⟨s, ⟨#[]⟩, [], []⟩ [.string s, .string ⟨#[]⟩, .slice none 0 0, .slice none 0 0] :=
  ⟨none, 0, 0, none, 0, 0, rfl, Sl.nil _ _ _, Sl.nil _ _ _⟩
theorem class52 (s : ByteArray) (w : World) : Calls Tryd.prog 66 #[.string s] w (IffP (RightP ⟨s, ⟨#[]⟩, [], []⟩) w) := by
  have HR := Lib.hid (fun x => right10 ⟨s, ⟨#[]⟩, [], []⟩ _ x (strc s x))
  go_enter Tryd.func66, Tryd.ntmps66
  go_wp2_with fail
  refine (HR.out _).mono ?_
  rintro e w1 ⟨r, rfl, hr, hb⟩
  have H := Lib.hid hr
  clear hr
  go_wp2
  go_ret
  exact ⟨r, rfl, H.out, hb⟩

/-- a slice of one, just made -/
theorem Sl.one {α : Type} {R : α → List Value → Prop} {w : World} {b m : Nat} {x : α} {cs : List Value} {t : TypeId} (h : Blk w b cs t) (hR : R x cs) : Sl w m R [x] (.slice (some ⟨b, 0, none⟩) 1 1) :=
  ⟨some ⟨b, 0, none⟩, 1, rfl, Nat.le_refl _, by unfold maxLen; omega, fun i y hi => by
    cases i with
    | zero => simp at hi; subst hi; exact ⟨b, 0, cs, rfl, fun j v hv => by rw [Nat.zero_mul, Nat.add_zero, Nat.zero_add, h.cell, hv], hR⟩
    | succ i => simp at hi⟩
def AloneV (f : Fc) (W : World) (e : Ending) (w' : World) : Prop := ∃ cs, e = .returned (.agg cs.toArray) ∧ FcR w' f cs ∧ Below W.heap.size W w'
set_option maxHeartbeats 1000000 in
set_option maxRecDepth 100000 in
theorem alone56 (x : Fd) (w : World) : Calls Tryd.prog 70 #[.agg #[.string x.1.name, .string x.1.tn, .bool x.1.ta, .string x.2]] w (AloneV ⟨x.2, ⟨#[]⟩, [x.1], []⟩ w) := by
  go_enter Tryd.func70, Tryd.ntmps70
  go_wp2
  refine bodyPost_ret (v := .agg #[.string x.2, .string ⟨#[]⟩, .slice (some ⟨w.heap.size + 1 + 1, 0, none⟩) 1 1, .slice none 0 0]) (by simp [results, Tryd.results70, go_sem]) rfl ⟨[.string x.2, .string ⟨#[]⟩, .slice (some ⟨w.heap.size + 1 + 1, 0, none⟩) 1 1, .slice none 0 0], rfl, ?_, ?_⟩
  · have hB := Blk.new ((w.alloc (.cells #[.string x.1.name, .string x.1.tn, .bool x.1.ta, .string x.2] 87)).alloc (.cells #[.string x.2, .string ⟨#[]⟩, .slice (some ⟨w.heap.size + 1 + 1, 0, none⟩) 1 1, .slice none 0 0] 35)) [.string x.1.name, .string x.1.tn, .bool x.1.ta] 68
    exact ⟨_, _, _, none, 0, 0, rfl, Sl.one (by simpa using hB) rfl, Sl.nil _ _ _⟩
  · exact (below2 w _ _).alloc (by simp; omega) _
set_option maxHeartbeats 1000000 in
set_option maxRecDepth 100000 in
theorem alone59 (x : Mt) (a : Option Addr) (n c : Nat) (w : World) (h : Sl w 2 TyR x.1.ps (.slice a n c)) : Calls Tryd.prog 73 #[.agg #[.string x.1.name, .bool x.1.st, .slice a n c, .string x.1.rn, .bool x.1.ra, .string x.2]] w (AloneV ⟨x.2, ⟨#[]⟩, [], [x.1]⟩ w) := by
  go_enter Tryd.func73, Tryd.ntmps73
  go_wp2
  refine bodyPost_ret (v := .agg #[.string x.2, .string ⟨#[]⟩, .slice none 0 0, .slice (some ⟨w.heap.size + 1 + 1, 0, none⟩) 1 1]) (by simp [results, Tryd.results73, go_sem]) rfl ⟨[.string x.2, .string ⟨#[]⟩, .slice none 0 0, .slice (some ⟨w.heap.size + 1 + 1, 0, none⟩) 1 1], rfl, ?_, ?_⟩
  · have hB := Blk.new ((w.alloc (.cells #[.string x.1.name, .bool x.1.st, .slice a n c, .string x.1.rn, .bool x.1.ra, .string x.2] 58)).alloc (.cells #[.string x.2, .string ⟨#[]⟩, .slice none 0 0, .slice (some ⟨w.heap.size + 1 + 1, 0, none⟩) 1 1] 35)) [.string x.1.name, .bool x.1.st, .slice a n c, .string x.1.rn, .bool x.1.ra] 51
    exact ⟨none, 0, 0, _, _, _, rfl, Sl.nil _ _ _, Sl.one (by simpa using hB) ⟨a, n, c, rfl, tys_keep (Keeps.of_below ((below2 w _ _).alloc (by simp; omega) _)) h⟩⟩
  · exact (below2 w _ _).alloc (by simp; omega) _

set_option maxHeartbeats 1000000 in
set_option maxRecDepth 100000 in
theorem clos55 (x : Fd) (w : World) : Calls Tryd.prog 69 #[.agg #[.string x.1.name, .string x.1.tn, .bool x.1.ta, .string x.2]] w (IffP (RightP ⟨x.2, ⟨#[]⟩, [x.1], []⟩) w) := by
  have HA := Lib.hid (alone56 x)
  go_enter Tryd.func69, Tryd.ntmps69
  go_wp2_with fail
  refine (HA.out _).mono ?_
  rintro e w1 ⟨cs, rfl, hf, hb⟩
  have HR := Lib.hid (right10 _ cs w1 hf)
  have HB : Hid (Below w.heap.size w w1) := Lib.hid ((below1 w _).trans (hb.mono (by simp)))
  clear hf hb
  go_wp2_with fail
  refine HR.out.mono ?_
  rintro e w2 ⟨r, rfl, hr, hb2⟩
  have H := Lib.hid hr
  have HB2 : Hid (Below w.heap.size w w2) := Lib.hid (HB.out.trans (hb2.mono HB.out.size))
  clear hr hb2
  go_wp2
  go_ret
  exact ⟨r, rfl, H.out, HB2.out⟩
set_option maxHeartbeats 1000000 in
set_option maxRecDepth 100000 in
theorem clos58 (x : Mt) (a : Option Addr) (n c : Nat) (w : World) (h : Sl w 2 TyR x.1.ps (.slice a n c)) : Calls Tryd.prog 72 #[.agg #[.string x.1.name, .bool x.1.st, .slice a n c, .string x.1.rn, .bool x.1.ra, .string x.2]] w (IffP (RightP ⟨x.2, ⟨#[]⟩, [], [x.1]⟩) w) := by
  have HA := Lib.hid (alone59 x a n c _ (tys_keep (Keeps.of_below (below1 w (.cells #[.string x.1.name, .bool x.1.st, .slice a n c, .string x.1.rn, .bool x.1.ra, .string x.2] 58))) h))
  clear h
  go_enter Tryd.func72, Tryd.ntmps72
  go_wp2_with fail
  refine HA.out.mono ?_
  rintro e w1 ⟨cs, rfl, hf, hb⟩
  have HR := Lib.hid (right10 _ cs w1 hf)
  have HB : Hid (Below w.heap.size w w1) := Lib.hid ((below1 w _).trans (hb.mono (by simp)))
  clear hf hb HA
  go_wp2_with fail
  refine HR.out.mono ?_
  rintro e w2 ⟨r, rfl, hr, hb2⟩
  have H := Lib.hid hr
  have HB2 : Hid (Below w.heap.size w w2) := Lib.hid (HB.out.trans (hb2.mono HB.out.size))
  clear hr hb2
  go_wp2
  go_ret
  exact ⟨r, rfl, H.out, HB2.out⟩
end Go.Proofs.YthimpjfmelmhpaaDoor.Fc
