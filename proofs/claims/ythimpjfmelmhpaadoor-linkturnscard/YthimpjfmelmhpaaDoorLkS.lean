/-
  Where a field is in its objects.
-/
import Derived.Test.YthimpjfmelmhpaaDoorLkR
import Derived.Test.YthimpjfmelmhpaaDoorLkY
namespace Go.Proofs.YthimpjfmelmhpaaDoor.Fc
open Go.RowKit
set_option linter.unusedVariables false
set_option linter.unusedSimpArgs false

theorem clos35 (q : Nat) (x : Vr) (s : ByteArray) (w : World) (h : w.cell? ⟨q, 0, none⟩ = some (.string s)) : Calls Tryd.prog 35 #[.agg #[.string x.name, .string x.tn, .bool x.ta], .pointer (some ⟨q, 0, none⟩)] w fun e w' => e = .returned (.bool (decide (x.name = s))) ∧ Below w.heap.size w w' := by
  have hb := below1 w (.cells #[.string x.name, .string x.tn, .bool x.ta] 68)
  have h2 := (hb.cell (World.block_lt_of_cell? _ _ h)).trans h
  have HB := Lib.hid hb
  clear hb h
  by_cases hn : x.name = s
  · have tn := teq hn
    have HD : Hid (decide (x.name = s) = true) := Lib.hid (by simp [hn])
    clear hn
    go_enter Tryd.func35, Tryd.ntmps35
    go_wp2
    go_ret
    exact ⟨by rw [HD.out]; rfl, HB.out⟩
  · have tn := tne hn
    have HD : Hid (decide (x.name = s) = false) := Lib.hid (by simp [hn])
    clear hn
    go_enter Tryd.func35, Tryd.ntmps35
    go_wp2
    go_ret
    exact ⟨by rw [HD.out]; rfl, HB.out⟩
theorem w64 (n : Int) (h0 : -9223372036854775808 ≤ n) (h1 : n ≤ 9223372036854775807) : wrap64 n = n := by unfold wrap64; omega
theorem wi64 (n : Int) (h0 : -9223372036854775808 ≤ n) (h1 : n ≤ 9223372036854775807) : IntKind.i64.wrap n = n := by rw [IntKind.wrap_i64]; omega
theorem ixN_lt {α : Type} {nm : α → ByteArray} : ∀ {xs : List α} {s : ByteArray} {k : Nat}, ixN nm xs s = some k → k < xs.length
  | [], s, k, h => by simp [ixN] at h
  | y :: r, s, k, h => by
    rw [ixN] at h
    split at h
    · cases h; simp
    · obtain ⟨j, hj, rfl⟩ := Option.map_eq_some_iff.1 h
      have := ixN_lt hj
      simp; omega
def ixI (o : Option Nat) : Int := match o with
  | none => -1
  | some k => k
set_option maxHeartbeats 4000000 in
set_option maxRecDepth 100000 in
theorem idx34 (q : Nat) (xs : List Vr) (s : ByteArray) (a : Option Addr) (n cp : Nat) (w : World) (hk : Sl w 3 VrR xs (.slice a n cp)) (h : w.cell? ⟨q, 0, none⟩ = some (.string s)) :
    Calls Tryd.prog 34 #[.slice a n cp, .func (.func 35) #[] #[.pointer (some ⟨q, 0, none⟩)]] w fun e w' => e = .returned (.int .i64 (ixI (ixN Vr.name xs s))) ∧ Below w.heap.size w w' := by
  obtain ⟨hn, hl, hcp, hkk⟩ := hk.at
  unfold maxLen at hcp
  have HN := Lib.hid hn
  have HK := Lib.hid hkk
  have HH := Lib.hid h
  clear hn hkk hk h
  go_enter Tryd.func34, Tryd.ntmps34
  go_wp2
  go_loopw [8] (fun ii wr => ∃ k : Nat, k ≤ n ∧ ii = .int .i64 k ∧ Hid (∀ x ∈ xs.take k, x.name ≠ s) ∧ Below w.heap.size w wr) (fun ii _ => n - (intOf ii).toNat)
  case atStart => exact ⟨0, Nat.zero_le _, rfl, Lib.hid (by simp), Below.refl _ _⟩
  case round =>
    obtain ⟨k, hk1, rfl, HA, hbr⟩ := hrel
    have hsr := hbr.size
    have HBR := Lib.hid hbr
    by_cases hlt : k < n
    · obtain ⟨x, hx⟩ : ∃ x, xs[k]? = some x := ⟨_, List.getElem?_eq_getElem (by have := HN.out; omega)⟩
      obtain ⟨g, o, cs, rfl, hcell, rfl⟩ := HK.out k x hx
      have k0 : wr.cell? ⟨g, o + k * 3, none⟩ = some (.string x.name) := (hbr.cell (World.block_lt_of_cell? _ _ (hcell 0 _ rfl))).trans (hcell 0 _ rfl)
      have k1 := (hbr.cell (World.block_lt_of_cell? _ _ (hcell 1 _ rfl))).trans (hcell 1 _ rfl)
      have k2 := (hbr.cell (World.block_lt_of_cell? _ _ (hcell 2 _ rfl))).trans (hcell 2 _ rfl)
      have hgl : g < wr.heap.size := World.block_lt_of_cell? _ _ k0
      have HC := Lib.hid (clos35 q x s wr ((hbr.cell (World.block_lt_of_cell? _ _ HH.out)).trans HH.out))
      have HX := Lib.hid hx
      clear hcell hx hbr
      go_wp2_with fail
      refine HC.out.mono ?_
      rintro e w2 ⟨rfl, hb2⟩
      have HB2 : Hid (Below w.heap.size w w2) := Lib.hid (HBR.out.trans (hb2.mono hsr))
      clear hb2 HC
      by_cases hp : x.name = s
      · have hd : decide (x.name = s) = true := by simp [hp]
        have HI : Hid (ixN Vr.name xs s = some k) := Lib.hid (ix_at HX.out hp HA.out)
        clear hp
        go_wp2
        go_ret
        exact ⟨by rw [HI.out]; rfl, HB2.out⟩
      · have hd : decide (x.name = s) = false := by simp [hp]
        have HA2 := Lib.hid (all_snoc (P := fun x : Vr => x.name ≠ s) HX.out HA.out hp)
        clear hp
        go_wp2
        go_roundw
        case rel => exact ⟨k + 1, by omega, by go_num, HA2, HB2.out⟩
        case measure => simp [intOf]; omega
    · have HI : Hid (ixN Vr.name xs s = none) := Lib.hid (ix_no (by have h := HA.out; rw [List.take_of_length_le (by have := HN.out; omega)] at h; exact h))
      go_wp2
      go_ret
      exact ⟨by rw [HI.out]; rfl, hbr⟩
/-- where a field of a class is in its objects -/
def slotF (fs : List Fl) (s fld : ByteArray) : Int := match fldOf (faces fs) (ab (faces fs) s).1 fld with
  | none => -1
  | some p => (sizeF fs ((flAt fs p.1).getD zFl).fc.sup : Int) + ixI (ixN Vr.name ((flAt fs p.1).getD zFl).fc.fs fld)
theorem fldOf_mem {L : List Fc} {cls : List ByteArray} {s : ByteArray} {p : ByteArray × Ty} (h : fldOf L cls s = some p) : p.1 ∈ cls := by
  unfold fldOf at h
  obtain ⟨c, hc, h2⟩ := List.exists_of_findSome?_eq_some h
  unfold fOne at h2
  obtain ⟨t, _, rfl⟩ := Option.map_eq_some_iff.1 h2
  exact hc
set_option maxHeartbeats 4000000 in
set_option maxRecDepth 100000 in
theorem slot17 (i : ImS) (hL : i.fs.length ≤ 300) (sv : Value) (c : Nat) (w : World) (h : Im i sv c w) (hc : c < 50000000000) (s fld : ByteArray) (hs : s.size ≤ maxLen) :
    Calls Tryd.prog 17 #[.pointer (some ⟨i.im, 0, none⟩), .string s, .string fld] w (IPost i w c 2000 (.int .i64 (slotF i.fs s fld))) := by
  have hLL : (faces i.fs).length ≤ 300 := by simpa [faces] using hL
  have hbx : Below w.heap.size w (w.alloc (.cells #[.string fld] 9)).drew := (below1 w (.cells #[.string fld] 9)).drew
  have HBX := Lib.hid hbx
  have HI0 := Lib.hid (h.bel hbx)
  have HhB := Lib.hid h.hB
  have hX : Blk (w.alloc (.cells #[.string fld] 9)).drew w.heap.size [.string fld] 9 := Blk.dr (Blk.new w [.string fld] 9)
  have HPL : Hid (∀ v ∈ [Value.string fld], Pl v) := Lib.hid (by
    intro v hv
    simp only [List.mem_cons, List.not_mem_nil, or_false] at hv
    subst hv
    exact pl_str _)
  have HLS0 : Hid (LS i w.heap.size [Value.string fld] (w.alloc (.cells #[.string fld] 9)).drew) := Lib.hid ⟨HI0.out.ptr, fun j v hv => by rw [hX.cell]; exact hv⟩
  have HLSB := HLS0
  have HFA := Lib.hid (field20 i.B i.tb i.fm (faces i.fs) hLL s fld hs _ sv c HI0.out.hB HI0.out.tab (by omega))
  have HI1' := Lib.hid (HI0.out.bel (below1 (w.alloc (.cells #[.string fld] 9)).drew (.cells #[.string ⟨#[]⟩, .bool false] 49)))
  have HFB := Lib.hid (field20 i.B i.tb i.fm (faces i.fs) hLL s fld hs _ sv c HI1'.out.hB HI1'.out.tab (by omega))
  have hSL : slotF i.fs s fld = match fldOf (faces i.fs) (ab (faces i.fs) s).1 fld with
    | none => -1
    | some p => (sizeF i.fs ((flAt i.fs p.1).getD zFl).fc.sup : Int) + ixI (ixN Vr.name ((flAt i.fs p.1).getD zFl).fc.fs fld) := rfl
  have HMEM : Hid (∀ p, fldOf (faces i.fs) (ab (faces i.fs) s).1 fld = some p → p.1.size ≤ maxLen) := Lib.hid (fun p hp => by have := ab_small h.tab.sm hs _ (fldOf_mem hp); unfold maxLen; omega)
  have HLI := Lib.hid hL
  have hil := h.lt
  clear h hbx hX HI1' hL
  generalize fldOf (faces i.fs) (ab (faces i.fs) s).1 fld = oo at *
  go_enter Tryd.func17, Tryd.ntmps17
  cases oo with
  | none =>
    have HANS : Hid (slotF i.fs s fld = -1) := Lib.hid hSL
    clear hSL
    go_upto_region 3 with fail
    refine wp_region_held_drew (S := fun z => LS i w.heap.size [Value.string fld] z) (by kernel_rfl) ?_ (fun hHeld => ?_)
    · exact HLS0.out
    refine wpAnyH_take (i := 0) (v := ?_) rfl (by kernel_rfl) (by kernel_rfl) (by kernel_rfl) (fun _ _ _ h => h) (Or.inl ⟨by rfl, ?_⟩) (by assumption) ?_
    rotate_left
    focus (intro w hSw; have p := hSw.ptr; have b0 := hSw.box 0 _ rfl; go_simp; first | done | with_reducible rfl)
    simp only [Act.put, List.getElem_toArray, List.getElem_cons_zero, List.setIfInBounds_toArray, List.set_cons_zero, List.set_cons_succ]
    refine wpAnyH_take (i := 1) (v := ?_) rfl (by kernel_rfl) (by kernel_rfl) (by kernel_rfl) (fun _ _ _ h => h) (Or.inl ⟨by rfl, ?_⟩) (by assumption) ?_
    rotate_left
    focus (intro w hSw; have p := hSw.ptr; have b0 := hSw.box 0 _ rfl; go_simp; first | done | with_reducible rfl)
    simp only [Act.put, List.getElem_toArray, List.getElem_cons_zero, List.getElem_cons_succ, List.setIfInBounds_toArray, List.set_cons_zero, List.set_cons_succ]
    refine wpAnyH_take (i := 2) (v := ?_) rfl (by kernel_rfl) (by kernel_rfl) (by kernel_rfl) (fun _ _ _ h => h) (Or.inl ⟨by rfl, ?_⟩) (by assumption) ?_
    rotate_left
    focus (intro w hSw; have p := hSw.ptr; have b0 := hSw.box 0 _ rfl; go_simp; first | done | with_reducible rfl)
    simp only [Act.put, List.getElem_toArray, List.getElem_cons_zero, List.getElem_cons_succ, List.setIfInBounds_toArray, List.set_cons_zero, List.set_cons_succ]
    refine wpAnyH_take (i := 3) (v := ?_) rfl (by kernel_rfl) (by kernel_rfl) (by kernel_rfl) (fun _ _ _ h => h) (Or.inl ⟨by rfl, ?_⟩) (by assumption) ?_
    rotate_left
    focus (intro w hSw; have p := hSw.ptr; have b0 := hSw.box 0 _ rfl; go_simp; first | done | with_reducible rfl)
    simp only [Act.put, List.getElem_toArray, List.getElem_cons_zero, List.getElem_cons_succ, List.setIfInBounds_toArray, List.set_cons_zero, List.set_cons_succ]
    refine wpAnyH_take (i := 4) (v := ?_) rfl (by kernel_rfl) (by kernel_rfl) (by kernel_rfl) (fun _ _ _ h => h) (Or.inl ⟨by rfl, ?_⟩) (by assumption) ?_
    rotate_left
    focus (intro w hSw; have p := hSw.ptr; have b0 := hSw.box 0 _ rfl; go_simp; first | done | with_reducible rfl)
    simp only [Act.put, List.getElem_toArray, List.getElem_cons_zero, List.getElem_cons_succ, List.setIfInBounds_toArray, List.set_cons_zero, List.set_cons_succ]
    refine wpAnyH_take (i := 5) (v := ?_) rfl (by kernel_rfl) (by kernel_rfl) (by kernel_rfl) (fun _ _ _ h => h) (Or.inl ⟨by rfl, ?_⟩) (by assumption) ?_
    rotate_left
    focus (intro w hSw; have p := hSw.ptr; have b0 := hSw.box 0 _ rfl; go_simp; first | done | with_reducible rfl)
    simp only [Act.put, List.getElem_toArray, List.getElem_cons_zero, List.getElem_cons_succ, List.setIfInBounds_toArray, List.set_cons_zero, List.set_cons_succ]
    refine wpAnyH_ready (rs := [6, 11]) (by kernel_rfl) (by simp) ?_
    refine AllReadyH.cons (o := _) rfl (fun K hK => ?_) (AllReadyH.cons (o := _) rfl (fun K hK => ?_) AllReadyH.nil)
    · go_simp
      refine HFA.out.mono ?_
      rintro e w1 ⟨sv1, q1, rfl, hT1, hs1, hc1⟩
      simp only [Option.getD_none, Option.isSome_none, Option.getD_some, Option.isSome_some, eE, zT, tyV]
      have HI1 := Lib.hid (HI0.out.next hT1 hs1)
      have HK1 := Lib.hid hs1.keeps
      have HB1 := Lib.hid (hs1.below HI0.out.tab HI0.out.hB)
      have HLS := Lib.hid (hHeld.keep HPL.out hs1.keeps)
      clear hT1 hs1
      go_simp
      refine hK.out _ _ HLS.out (fun hHeld => ?_)
      clear hK K
      try simp only [Act.put, List.getElem_toArray, List.getElem_cons_zero, List.getElem_cons_succ, List.setIfInBounds_toArray, List.set_cons_zero, List.set_cons_succ]
      refine wpAnyH_take (i := 7) (v := ?_) rfl (by kernel_rfl) (by kernel_rfl) (by kernel_rfl) (fun _ _ _ h => h) (Or.inl ⟨by rfl, ?_⟩) (by assumption) ?_
      rotate_left
      focus (intro w hSw; have p := hSw.ptr; have b0 := hSw.box 0 _ rfl; go_simp; first | done | with_reducible rfl)
      simp only [Act.put, List.getElem_toArray, List.getElem_cons_zero, List.getElem_cons_succ, List.setIfInBounds_toArray, List.set_cons_zero, List.set_cons_succ]
      refine wpAnyH_take (i := 8) (v := ?_) rfl (by kernel_rfl) (by kernel_rfl) (by kernel_rfl) (fun _ _ _ h => h) (Or.inl ⟨by rfl, ?_⟩) (by assumption) ?_
      rotate_left
      focus (intro w hSw; have p := hSw.ptr; have b0 := hSw.box 0 _ rfl; go_simp; first | done | with_reducible rfl)
      simp only [Act.put, List.getElem_toArray, List.getElem_cons_zero, List.getElem_cons_succ, List.setIfInBounds_toArray, List.set_cons_zero, List.set_cons_succ]
      refine wpAnyH_take (i := 9) (v := ?_) rfl (by kernel_rfl) (by kernel_rfl) (by kernel_rfl) (fun _ _ _ h => h) (Or.inl ⟨by rfl, ?_⟩) (by assumption) ?_
      rotate_left
      focus (intro w hSw; have p := hSw.ptr; have b0 := hSw.box 0 _ rfl; go_simp; first | done | with_reducible rfl)
      simp only [Act.put, List.getElem_toArray, List.getElem_cons_zero, List.getElem_cons_succ, List.setIfInBounds_toArray, List.set_cons_zero, List.set_cons_succ]
      refine wpAnyH_take (i := 10) (v := ?_) rfl (by kernel_rfl) (by kernel_rfl) (by kernel_rfl) (fun _ _ _ h => h) (Or.inl ⟨by rfl, ?_⟩) (by assumption) ?_
      rotate_left
      focus (intro w hSw; have p := hSw.ptr; have b0 := hSw.box 0 _ rfl; go_simp; first | done | with_reducible rfl)
      simp only [Act.put, List.getElem_toArray, List.getElem_cons_zero, List.getElem_cons_succ, List.setIfInBounds_toArray, List.set_cons_zero, List.set_cons_succ]
      refine wpAnyH_ready (rs := [11]) (by kernel_rfl) (by simp) ?_
      refine AllReadyH.cons (o := _) rfl (fun K hK => ?_) AllReadyH.nil
      go_simp
      refine hK.out _ _ (hHeld.bel (below1 _ _)) (fun hHeld => ?_)
      clear hK K
      try simp only [Act.put, List.getElem_toArray, List.getElem_cons_zero, List.getElem_cons_succ, List.setIfInBounds_toArray, List.set_cons_zero, List.set_cons_succ]
      refine wpAnyH_take (i := 12) (v := ?_) rfl (by kernel_rfl) (by kernel_rfl) (by kernel_rfl) (fun _ _ _ h => h) (Or.inl ⟨by rfl, ?_⟩) (by assumption) ?_
      rotate_left
      focus (intro w hSw; have p := hSw.ptr; have b0 := hSw.box 0 _ rfl; go_simp; first | done | with_reducible rfl)
      simp only [Act.put, List.getElem_toArray, List.getElem_cons_zero, List.getElem_cons_succ, List.setIfInBounds_toArray, List.set_cons_zero, List.set_cons_succ]
      refine wpAnyH_ready (rs := [13]) (by kernel_rfl) (by simp) ?_
      refine AllReadyH.cons (o := _) rfl (fun K hK => ?_) AllReadyH.nil
      go_simp
      have HZI := Lib.hid (HI1.out.bel (below1 w1 (.cells #[.string ⟨#[]⟩, .bool false] 49)))
      have HZK := Lib.hid (HK1.out.trans (Keeps.of_below (below1 w1 (.cells #[.string ⟨#[]⟩, .bool false] 49))))
      have HZB := Lib.hid (HB1.out.trans ((below1 w1 (.cells #[.string ⟨#[]⟩, .bool false] 49)).mono HI1.out.hB))
      have HLZ := HLS.out.bel (below1 w1 (.cells #[.string ⟨#[]⟩, .bool false] 49))
      have HLZ := Lib.hid HLZ
      clear HI1 HK1 HB1 HLS
      refine hK.out _ _ HLZ.out (fun hHeld => ?_)
      clear hK K
      try simp only [Act.put, List.getElem_toArray, List.getElem_cons_zero, List.getElem_cons_succ, List.setIfInBounds_toArray, List.set_cons_zero, List.set_cons_succ]
      refine wpAnyH_take (i := 14) (v := ?_) rfl (by kernel_rfl) (by kernel_rfl) (by kernel_rfl) (fun _ _ _ h => h) (Or.inl ⟨by rfl, ?_⟩) (by assumption) ?_
      rotate_left
      focus (intro w hSw; have p := hSw.ptr; have b0 := hSw.box 0 _ rfl; go_simp; first | done | with_reducible rfl)
      simp only [Act.put, List.getElem_toArray, List.getElem_cons_zero, List.getElem_cons_succ, List.setIfInBounds_toArray, List.set_cons_zero, List.set_cons_succ]
      refine wpAnyH_done (by kernel_rfl) ?_ _
      clear hHeld
      have HFN : Hid (IPost i w c 2000 (.int .i64 (slotF i.fs s fld)) (.returned (.int .i64 (-1))) _) := Lib.hid ⟨sv1, q1, by rw [HANS.out], HZI.out, (Keeps.of_below HBX.out).trans HZK.out, (HBX.out.mono HhB.out).trans HZB.out, by omega⟩
      go_wp2
      go_ret
      exact HFN.out
    · go_simp
      refine hK.out _ _ (hHeld.bel (below1 _ _)) (fun hHeld => ?_)
      clear hK K
      try simp only [Act.put, List.getElem_toArray, List.getElem_cons_zero, List.getElem_cons_succ, List.setIfInBounds_toArray, List.set_cons_zero, List.set_cons_succ]
      refine wpAnyH_ready (rs := [6]) (by kernel_rfl) (by simp) ?_
      refine AllReadyH.cons (o := _) rfl (fun K hK => ?_) AllReadyH.nil
      go_simp
      refine HFB.out.mono ?_
      rintro e w1 ⟨sv1, q1, rfl, hT1, hs1, hc1⟩
      simp only [Option.getD_none, Option.isSome_none, Option.getD_some, Option.isSome_some, eE, zT, tyV]
      have HO := Lib.hid (HI0.out.ownset hT1 hs1)
      have HLS := Lib.hid (hHeld.keep HPL.out hs1.keeps)
      have hr0 := HO.out.1.cell 0
      have hr1 := HO.out.1.cell 1
      have hf0 := HO.out.1.frozen 0
      have hf1 := HO.out.1.frozen 1
      simp only [List.getElem?_cons_zero, List.getElem?_cons_succ] at hr0 hr1
      have hqe : (w.alloc (.cells #[.string fld] 9)).drew.heap.size = w.heap.size + 1 := by simp [World.drew]
      rw [hqe] at hr0 hr1 hf0 hf1
      clear hqe
      have hsz : w.heap.size + 1 < w1.heap.size := by have := HO.out.1.lt; simpa using this
      clear hT1 hs1
      go_simp
      refine hK.out _ _ HLS.out (fun hHeld => ?_)
      clear hK K
      try simp only [Act.put, List.getElem_toArray, List.getElem_cons_zero, List.getElem_cons_succ, List.setIfInBounds_toArray, List.set_cons_zero, List.set_cons_succ]
      refine wpAnyH_take (i := 7) (v := ?_) rfl (by kernel_rfl) (by kernel_rfl) (by kernel_rfl) (fun _ _ _ h => h) (Or.inl ⟨by rfl, ?_⟩) (by assumption) ?_
      rotate_left
      focus (intro w hSw; have p := hSw.ptr; have b0 := hSw.box 0 _ rfl; go_simp; first | done | with_reducible rfl)
      simp only [Act.put, List.getElem_toArray, List.getElem_cons_zero, List.getElem_cons_succ, List.setIfInBounds_toArray, List.set_cons_zero, List.set_cons_succ]
      refine wpAnyH_take (i := 8) (v := ?_) rfl (by kernel_rfl) (by kernel_rfl) (by kernel_rfl) (fun _ _ _ h => h) (Or.inl ⟨by rfl, ?_⟩) (by assumption) ?_
      rotate_left
      focus (intro w hSw; have p := hSw.ptr; have b0 := hSw.box 0 _ rfl; go_simp; first | done | with_reducible rfl)
      simp only [Act.put, List.getElem_toArray, List.getElem_cons_zero, List.getElem_cons_succ, List.setIfInBounds_toArray, List.set_cons_zero, List.set_cons_succ]
      refine wpAnyH_take (i := 9) (v := ?_) rfl (by kernel_rfl) (by kernel_rfl) (by kernel_rfl) (fun _ _ _ h => h) (Or.inl ⟨by rfl, ?_⟩) (by assumption) ?_
      rotate_left
      focus (intro w hSw; have p := hSw.ptr; have b0 := hSw.box 0 _ rfl; go_simp; first | done | with_reducible rfl)
      simp only [Act.put, List.getElem_toArray, List.getElem_cons_zero, List.getElem_cons_succ, List.setIfInBounds_toArray, List.set_cons_zero, List.set_cons_succ]
      refine wpAnyH_take (i := 10) (v := ?_) rfl (by kernel_rfl) (by kernel_rfl) (by kernel_rfl) (fun _ _ _ h => h) (Or.inl ⟨by rfl, ?_⟩) (by assumption) ?_
      rotate_left
      focus (intro w hSw; have p := hSw.ptr; have b0 := hSw.box 0 _ rfl; go_simp; first | done | with_reducible rfl)
      simp only [Act.put, List.getElem_toArray, List.getElem_cons_zero, List.getElem_cons_succ, List.setIfInBounds_toArray, List.set_cons_zero, List.set_cons_succ]
      refine wpAnyH_take (i := 12) (v := ?_) rfl (by kernel_rfl) (by kernel_rfl) (by kernel_rfl) (fun _ _ _ h => h) (Or.inl ⟨by rfl, ?_⟩) (by assumption) ?_
      rotate_left
      focus (intro w hSw; have p := hSw.ptr; have b0 := hSw.box 0 _ rfl; go_simp; first | done | with_reducible rfl)
      simp only [Act.put, List.getElem_toArray, List.getElem_cons_zero, List.getElem_cons_succ, List.setIfInBounds_toArray, List.set_cons_zero, List.set_cons_succ]
      refine wpAnyH_ready (rs := [13]) (by kernel_rfl) (by simp) ?_
      refine AllReadyH.cons (o := _) rfl (fun K hK => ?_) AllReadyH.nil
      go_simp
      have HM2 := Lib.hid (((Mods.refl (· = (w.alloc (.cells #[.string fld] 9)).drew.heap.size) w1).setCell (p := ⟨(w.alloc (.cells #[.string fld] 9)).drew.heap.size, 0, none⟩) (.inl rfl) (.string ⟨#[]⟩)).setCell (p := ⟨(w.alloc (.cells #[.string fld] 9)).drew.heap.size, 1, none⟩) (.inl rfl) (.bool false))
      obtain ⟨hZI, hZK, hZB⟩ := HO.out.2 _ HM2.out
      have HZI := Lib.hid hZI
      have HZK := Lib.hid hZK
      have HZB := Lib.hid hZB
      have HLZ := Lib.hid (HLSB.out.keep HPL.out HZK.out)
      have hqe : (w.alloc (.cells #[.string fld] 9)).drew.heap.size = w.heap.size + 1 := by simp [World.drew]
      rw [hqe] at HLZ HZI HZK HZB
      clear hZI hZK hZB HO HLS
      refine hK.out _ _ HLZ.out (fun hHeld => ?_)
      clear hK K
      try simp only [Act.put, List.getElem_toArray, List.getElem_cons_zero, List.getElem_cons_succ, List.setIfInBounds_toArray, List.set_cons_zero, List.set_cons_succ]
      refine wpAnyH_take (i := 14) (v := ?_) rfl (by kernel_rfl) (by kernel_rfl) (by kernel_rfl) (fun _ _ _ h => h) (Or.inl ⟨by rfl, ?_⟩) (by assumption) ?_
      rotate_left
      focus (intro w hSw; have p := hSw.ptr; have b0 := hSw.box 0 _ rfl; go_simp; first | done | with_reducible rfl)
      simp only [Act.put, List.getElem_toArray, List.getElem_cons_zero, List.getElem_cons_succ, List.setIfInBounds_toArray, List.set_cons_zero, List.set_cons_succ]
      refine wpAnyH_done (by kernel_rfl) ?_ _
      clear hHeld
      have HFN : Hid (IPost i w c 2000 (.int .i64 (slotF i.fs s fld)) (.returned (.int .i64 (-1))) _) := Lib.hid ⟨sv1, q1, by rw [HANS.out], HZI.out, (Keeps.of_below HBX.out).trans HZK.out, (HBX.out.mono HhB.out).trans HZB.out, by omega⟩
      go_wp2
      go_ret
      exact HFN.out
  | some p =>
    obtain ⟨pc, pn, pa⟩ := p
    have hpc : pc.size ≤ maxLen := HMEM.out _ rfl
    have HANS : Hid (slotF i.fs s fld = (sizeF i.fs ((flAt i.fs pc).getD zFl).fc.sup : Int) + ixI (ixN Vr.name ((flAt i.fs pc).getD zFl).fc.fs fld)) := Lib.hid hSL
    clear hSL
    go_upto_region 3 with fail
    refine wp_region_held_drew (S := fun z => LS i w.heap.size [Value.string fld] z) (by kernel_rfl) ?_ (fun hHeld => ?_)
    · exact HLS0.out
    refine wpAnyH_take (i := 0) (v := ?_) rfl (by kernel_rfl) (by kernel_rfl) (by kernel_rfl) (fun _ _ _ h => h) (Or.inl ⟨by rfl, ?_⟩) (by assumption) ?_
    rotate_left
    focus (intro w hSw; have p := hSw.ptr; have b0 := hSw.box 0 _ rfl; go_simp; first | done | with_reducible rfl)
    simp only [Act.put, List.getElem_toArray, List.getElem_cons_zero, List.setIfInBounds_toArray, List.set_cons_zero, List.set_cons_succ]
    refine wpAnyH_take (i := 1) (v := ?_) rfl (by kernel_rfl) (by kernel_rfl) (by kernel_rfl) (fun _ _ _ h => h) (Or.inl ⟨by rfl, ?_⟩) (by assumption) ?_
    rotate_left
    focus (intro w hSw; have p := hSw.ptr; have b0 := hSw.box 0 _ rfl; go_simp; first | done | with_reducible rfl)
    simp only [Act.put, List.getElem_toArray, List.getElem_cons_zero, List.getElem_cons_succ, List.setIfInBounds_toArray, List.set_cons_zero, List.set_cons_succ]
    refine wpAnyH_take (i := 2) (v := ?_) rfl (by kernel_rfl) (by kernel_rfl) (by kernel_rfl) (fun _ _ _ h => h) (Or.inl ⟨by rfl, ?_⟩) (by assumption) ?_
    rotate_left
    focus (intro w hSw; have p := hSw.ptr; have b0 := hSw.box 0 _ rfl; go_simp; first | done | with_reducible rfl)
    simp only [Act.put, List.getElem_toArray, List.getElem_cons_zero, List.getElem_cons_succ, List.setIfInBounds_toArray, List.set_cons_zero, List.set_cons_succ]
    refine wpAnyH_take (i := 3) (v := ?_) rfl (by kernel_rfl) (by kernel_rfl) (by kernel_rfl) (fun _ _ _ h => h) (Or.inl ⟨by rfl, ?_⟩) (by assumption) ?_
    rotate_left
    focus (intro w hSw; have p := hSw.ptr; have b0 := hSw.box 0 _ rfl; go_simp; first | done | with_reducible rfl)
    simp only [Act.put, List.getElem_toArray, List.getElem_cons_zero, List.getElem_cons_succ, List.setIfInBounds_toArray, List.set_cons_zero, List.set_cons_succ]
    refine wpAnyH_take (i := 4) (v := ?_) rfl (by kernel_rfl) (by kernel_rfl) (by kernel_rfl) (fun _ _ _ h => h) (Or.inl ⟨by rfl, ?_⟩) (by assumption) ?_
    rotate_left
    focus (intro w hSw; have p := hSw.ptr; have b0 := hSw.box 0 _ rfl; go_simp; first | done | with_reducible rfl)
    simp only [Act.put, List.getElem_toArray, List.getElem_cons_zero, List.getElem_cons_succ, List.setIfInBounds_toArray, List.set_cons_zero, List.set_cons_succ]
    refine wpAnyH_take (i := 5) (v := ?_) rfl (by kernel_rfl) (by kernel_rfl) (by kernel_rfl) (fun _ _ _ h => h) (Or.inl ⟨by rfl, ?_⟩) (by assumption) ?_
    rotate_left
    focus (intro w hSw; have p := hSw.ptr; have b0 := hSw.box 0 _ rfl; go_simp; first | done | with_reducible rfl)
    simp only [Act.put, List.getElem_toArray, List.getElem_cons_zero, List.getElem_cons_succ, List.setIfInBounds_toArray, List.set_cons_zero, List.set_cons_succ]
    refine wpAnyH_ready (rs := [6, 11]) (by kernel_rfl) (by simp) ?_
    refine AllReadyH.cons (o := _) rfl (fun K hK => ?_) (AllReadyH.cons (o := _) rfl (fun K hK => ?_) AllReadyH.nil)
    · go_simp
      refine HFA.out.mono ?_
      rintro e w1 ⟨sv1, q1, rfl, hT1, hs1, hc1⟩
      simp only [Option.getD_none, Option.isSome_none, Option.getD_some, Option.isSome_some, eE, zT, tyV]
      have HI1 := Lib.hid (HI0.out.next hT1 hs1)
      have HK1 := Lib.hid hs1.keeps
      have HB1 := Lib.hid (hs1.below HI0.out.tab HI0.out.hB)
      have HLS := Lib.hid (hHeld.keep HPL.out hs1.keeps)
      clear hT1 hs1
      go_simp
      refine hK.out _ _ HLS.out (fun hHeld => ?_)
      clear hK K
      try simp only [Act.put, List.getElem_toArray, List.getElem_cons_zero, List.getElem_cons_succ, List.setIfInBounds_toArray, List.set_cons_zero, List.set_cons_succ]
      refine wpAnyH_take (i := 7) (v := ?_) rfl (by kernel_rfl) (by kernel_rfl) (by kernel_rfl) (fun _ _ _ h => h) (Or.inl ⟨by rfl, ?_⟩) (by assumption) ?_
      rotate_left
      focus (intro w hSw; have p := hSw.ptr; have b0 := hSw.box 0 _ rfl; go_simp; first | done | with_reducible rfl)
      simp only [Act.put, List.getElem_toArray, List.getElem_cons_zero, List.getElem_cons_succ, List.setIfInBounds_toArray, List.set_cons_zero, List.set_cons_succ]
      refine wpAnyH_take (i := 8) (v := ?_) rfl (by kernel_rfl) (by kernel_rfl) (by kernel_rfl) (fun _ _ _ h => h) (Or.inl ⟨by rfl, ?_⟩) (by assumption) ?_
      rotate_left
      focus (intro w hSw; have p := hSw.ptr; have b0 := hSw.box 0 _ rfl; go_simp; first | done | with_reducible rfl)
      simp only [Act.put, List.getElem_toArray, List.getElem_cons_zero, List.getElem_cons_succ, List.setIfInBounds_toArray, List.set_cons_zero, List.set_cons_succ]
      refine wpAnyH_take (i := 9) (v := ?_) rfl (by kernel_rfl) (by kernel_rfl) (by kernel_rfl) (fun _ _ _ h => h) (Or.inl ⟨by rfl, ?_⟩) (by assumption) ?_
      rotate_left
      focus (intro w hSw; have p := hSw.ptr; have b0 := hSw.box 0 _ rfl; go_simp; first | done | with_reducible rfl)
      simp only [Act.put, List.getElem_toArray, List.getElem_cons_zero, List.getElem_cons_succ, List.setIfInBounds_toArray, List.set_cons_zero, List.set_cons_succ]
      refine wpAnyH_take (i := 10) (v := ?_) rfl (by kernel_rfl) (by kernel_rfl) (by kernel_rfl) (fun _ _ _ h => h) (Or.inl ⟨by rfl, ?_⟩) (by assumption) ?_
      rotate_left
      focus (intro w hSw; have p := hSw.ptr; have b0 := hSw.box 0 _ rfl; go_simp; first | done | with_reducible rfl)
      simp only [Act.put, List.getElem_toArray, List.getElem_cons_zero, List.getElem_cons_succ, List.setIfInBounds_toArray, List.set_cons_zero, List.set_cons_succ]
      refine wpAnyH_ready (rs := [11]) (by kernel_rfl) (by simp) ?_
      refine AllReadyH.cons (o := _) rfl (fun K hK => ?_) AllReadyH.nil
      go_simp
      refine hK.out _ _ (hHeld.bel (below1 _ _)) (fun hHeld => ?_)
      clear hK K
      try simp only [Act.put, List.getElem_toArray, List.getElem_cons_zero, List.getElem_cons_succ, List.setIfInBounds_toArray, List.set_cons_zero, List.set_cons_succ]
      refine wpAnyH_take (i := 12) (v := ?_) rfl (by kernel_rfl) (by kernel_rfl) (by kernel_rfl) (fun _ _ _ h => h) (Or.inl ⟨by rfl, ?_⟩) (by assumption) ?_
      rotate_left
      focus (intro w hSw; have p := hSw.ptr; have b0 := hSw.box 0 _ rfl; go_simp; first | done | with_reducible rfl)
      simp only [Act.put, List.getElem_toArray, List.getElem_cons_zero, List.getElem_cons_succ, List.setIfInBounds_toArray, List.set_cons_zero, List.set_cons_succ]
      refine wpAnyH_ready (rs := [13]) (by kernel_rfl) (by simp) ?_
      refine AllReadyH.cons (o := _) rfl (fun K hK => ?_) AllReadyH.nil
      go_simp
      have HZI := Lib.hid (HI1.out.bel (below1 w1 (.cells #[.string pn, .bool pa] 49)))
      have HZK := Lib.hid (HK1.out.trans (Keeps.of_below (below1 w1 (.cells #[.string pn, .bool pa] 49))))
      have HZB := Lib.hid (HB1.out.trans ((below1 w1 (.cells #[.string pn, .bool pa] 49)).mono HI1.out.hB))
      have HLZ := HLS.out.bel (below1 w1 (.cells #[.string pn, .bool pa] 49))
      have HLZ := Lib.hid HLZ
      clear HI1 HK1 HB1 HLS
      refine hK.out _ _ HLZ.out (fun hHeld => ?_)
      clear hK K
      try simp only [Act.put, List.getElem_toArray, List.getElem_cons_zero, List.getElem_cons_succ, List.setIfInBounds_toArray, List.set_cons_zero, List.set_cons_succ]
      refine wpAnyH_take (i := 14) (v := ?_) rfl (by kernel_rfl) (by kernel_rfl) (by kernel_rfl) (fun _ _ _ h => h) (Or.inl ⟨by rfl, ?_⟩) (by assumption) ?_
      rotate_left
      focus (intro w hSw; have p := hSw.ptr; have b0 := hSw.box 0 _ rfl; go_simp; first | done | with_reducible rfl)
      simp only [Act.put, List.getElem_toArray, List.getElem_cons_zero, List.getElem_cons_succ, List.setIfInBounds_toArray, List.set_cons_zero, List.set_cons_succ]
      refine wpAnyH_done (by kernel_rfl) ?_ _
      have HZ0 := Lib.hid (hHeld.box 0 _ rfl)
      clear hHeld
      have HKW := Lib.hid ((Keeps.of_below HBX.out).trans HZK.out)
      have HBW := Lib.hid ((HBX.out.mono HhB.out).trans HZB.out)
      have HF := Lib.hid (file11 i sv1 q1 _ HZI.out pc hpc)
      go_wp2_with fail
      refine HF.out.mono ?_
      rintro e w2 ⟨cs, rfl, hfl, hb2⟩
      have HZ2 := Lib.hid ((hb2.cell (World.block_lt_of_cell? _ _ HZ0.out)).trans HZ0.out)
      have HI2 := Lib.hid (HZI.out.bel hb2)
      have HK2 := Lib.hid (HKW.out.trans (Keeps.of_below hb2))
      have HB2 := Lib.hid (HBW.out.trans (hb2.mono HZI.out.hB))
      have HSM2 : Hid (((flAt i.fs pc).getD zFl).fc.sup.size ≤ maxLen ∧ ((flAt i.fs pc).getD zFl).fc.fs.length ≤ 12) := Lib.hid (by have h := HI2.out.small pc; exact ⟨by have := h.sup; unfold maxLen; omega, h.fs⟩)
      generalize (flAt i.fs pc).getD zFl = fl at *
      obtain ⟨a8, n8, c8, a9, n9, c9, a1, n1, c1, a2, n2, c2, a3, n3, c3, a4, n4, c4, a5, n5, c5, a0, n0, c0, rfl, hfc, _⟩ := hfl
      obtain ⟨_, _, _, _, _, _, he, hf8, hf9⟩ := hfc
      simp only [List.cons.injEq, Value.slice.injEq, true_and, and_true] at he
      obtain ⟨⟨rfl, rfl, rfl⟩, rfl, rfl, rfl⟩ := he
      have hbW := (below1 w2 (.cells #[.string fl.fc.name, .string fl.fc.sup, .slice a8 n8 c8, .slice a9 n9 c9, .slice a1 n1 c1, .slice a2 n2 c2, .slice a3 n3 c3, .slice a4 n4 c4, .slice a5 n5 c5, .slice a0 n0 c0] 44)).drew
      have HIW := Lib.hid (HI2.out.bel hbW)
      have HVS := Lib.hid (vrs_keep (Keeps.of_below hbW) hf8)
      have HSZ := Lib.hid (size16 i HLI.out sv1 q1 _ HIW.out (by omega) fl.fc.sup HSM2.out.1)
      have HZW := Lib.hid ((hbW.cell (World.block_lt_of_cell? _ _ HZ2.out)).trans HZ2.out)
      have HKW2 := Lib.hid (HK2.out.trans (Keeps.of_below hbW))
      have HBW2 := Lib.hid (HB2.out.trans (hbW.mono HI2.out.hB))
      have hXW : Blk (w2.alloc (.cells #[.string fl.fc.name, .string fl.fc.sup, .slice a8 n8 c8, .slice a9 n9 c9, .slice a1 n1 c1, .slice a2 n2 c2, .slice a3 n3 c3, .slice a4 n4 c4, .slice a5 n5 c5, .slice a0 n0 c0] 44)).drew w2.heap.size [.string fl.fc.name, .string fl.fc.sup, .slice a8 n8 c8, .slice a9 n9 c9, .slice a1 n1 c1, .slice a2 n2 c2, .slice a3 n3 c3, .slice a4 n4 c4, .slice a5 n5 c5, .slice a0 n0 c0] 44 := Blk.dr (Blk.new w2 [.string fl.fc.name, .string fl.fc.sup, .slice a8 n8 c8, .slice a9 n9 c9, .slice a1 n1 c1, .slice a2 n2 c2, .slice a3 n3 c3, .slice a4 n4 c4, .slice a5 n5 c5, .slice a0 n0 c0] 44)
      have HPB2 : Hid (∀ v ∈ [Value.string fl.fc.name, .string fl.fc.sup, .slice a8 n8 c8, .slice a9 n9 c9, .slice a1 n1 c1, .slice a2 n2 c2, .slice a3 n3 c3, .slice a4 n4 c4, .slice a5 n5 c5, .slice a0 n0 c0], Pl v) := Lib.hid (by
        intro v hv
        simp only [List.mem_cons, List.not_mem_nil, or_false] at hv
        rcases hv with rfl | rfl | rfl | rfl | rfl | rfl | rfl | rfl | rfl | rfl
        all_goals first | exact pl_str _ | exact pl_slice _ _ _)
      have HLW : Hid (LS i w2.heap.size [Value.string fl.fc.name, .string fl.fc.sup, .slice a8 n8 c8, .slice a9 n9 c9, .slice a1 n1 c1, .slice a2 n2 c2, .slice a3 n3 c3, .slice a4 n4 c4, .slice a5 n5 c5, .slice a0 n0 c0] (w2.alloc (.cells #[.string fl.fc.name, .string fl.fc.sup, .slice a8 n8 c8, .slice a9 n9 c9, .slice a1 n1 c1, .slice a2 n2 c2, .slice a3 n3 c3, .slice a4 n4 c4, .slice a5 n5 c5, .slice a0 n0 c0] 44)).drew) := Lib.hid ⟨HIW.out.ptr, fun j v hv => by rw [hXW.cell]; exact hv⟩
      have HSBD : Hid (sizeF i.fs fl.fc.sup ≤ 4000) := Lib.hid (by
        have h1 := szL_le i.fs (fun s => (HI2.out.small s).fs) (ab (faces i.fs) fl.fc.sup).1
        have h2 := ab_len (faces i.fs) fl.fc.sup
        have h3 := HLI.out
        have h4 : (faces i.fs).length = i.fs.length := by simp [faces]
        unfold sizeF
        omega)
      have HIXB : Hid (-1 ≤ ixI (ixN Vr.name fl.fc.fs fld) ∧ ixI (ixN Vr.name fl.fc.fs fld) ≤ 12) := Lib.hid (by
        cases hix : ixN Vr.name fl.fc.fs fld with
        | none => simp [ixI]
        | some k => have := ixN_lt hix; have h2 := HSM2.out.2; simp only [ixI]; omega)
      clear HF hf8 hf9 hb2 hbW hXW HKW HBW HZI HZK HZB HI2 HB2 HK2 HZ2 HZ0
      go_upto_region 7 with fail
      refine wp_region_held_drew (S := fun z => LS i w2.heap.size [Value.string fl.fc.name, .string fl.fc.sup, .slice a8 n8 c8, .slice a9 n9 c9, .slice a1 n1 c1, .slice a2 n2 c2, .slice a3 n3 c3, .slice a4 n4 c4, .slice a5 n5 c5, .slice a0 n0 c0] z) (by kernel_rfl) ?_ (fun hHeld => ?_)
      · exact HLW.out
      refine wpAnyH_take (i := 0) (v := ?_) rfl (by kernel_rfl) (by kernel_rfl) (by kernel_rfl) (fun _ _ _ h => h) (Or.inl ⟨by rfl, ?_⟩) (by assumption) ?_
      rotate_left
      focus (intro w hSw; have p := hSw.ptr; have b1 := hSw.box 1 _ rfl; have b2 := hSw.box 2 _ rfl; go_simp; first | done | with_reducible rfl)
      simp only [Act.put, List.getElem_toArray, List.getElem_cons_zero, List.setIfInBounds_toArray, List.set_cons_zero, List.set_cons_succ]
      refine wpAnyH_take (i := 1) (v := ?_) rfl (by kernel_rfl) (by kernel_rfl) (by kernel_rfl) (fun _ _ _ h => h) (Or.inl ⟨by rfl, ?_⟩) (by assumption) ?_
      rotate_left
      focus (intro w hSw; have p := hSw.ptr; have b1 := hSw.box 1 _ rfl; have b2 := hSw.box 2 _ rfl; go_simp; first | done | with_reducible rfl)
      simp only [Act.put, List.getElem_toArray, List.getElem_cons_zero, List.getElem_cons_succ, List.setIfInBounds_toArray, List.set_cons_zero, List.set_cons_succ]
      refine wpAnyH_take (i := 2) (v := ?_) rfl (by kernel_rfl) (by kernel_rfl) (by kernel_rfl) (fun _ _ _ h => h) (Or.inl ⟨by rfl, ?_⟩) (by assumption) ?_
      rotate_left
      focus (intro w hSw; have p := hSw.ptr; have b1 := hSw.box 1 _ rfl; have b2 := hSw.box 2 _ rfl; go_simp; first | done | with_reducible rfl)
      simp only [Act.put, List.getElem_toArray, List.getElem_cons_zero, List.getElem_cons_succ, List.setIfInBounds_toArray, List.set_cons_zero, List.set_cons_succ]
      refine wpAnyH_take (i := 3) (v := ?_) rfl (by kernel_rfl) (by kernel_rfl) (by kernel_rfl) (fun _ _ _ h => h) (Or.inl ⟨by rfl, ?_⟩) (by assumption) ?_
      rotate_left
      focus (intro w hSw; have p := hSw.ptr; have b1 := hSw.box 1 _ rfl; have b2 := hSw.box 2 _ rfl; go_simp; first | done | with_reducible rfl)
      simp only [Act.put, List.getElem_toArray, List.getElem_cons_zero, List.getElem_cons_succ, List.setIfInBounds_toArray, List.set_cons_zero, List.set_cons_succ]
      refine wpAnyH_take (i := 5) (v := ?_) rfl (by kernel_rfl) (by kernel_rfl) (by kernel_rfl) (fun _ _ _ h => h) (Or.inl ⟨by rfl, ?_⟩) (by assumption) ?_
      rotate_left
      focus (intro w hSw; have p := hSw.ptr; have b1 := hSw.box 1 _ rfl; have b2 := hSw.box 2 _ rfl; go_simp; first | done | with_reducible rfl)
      simp only [Act.put, List.getElem_toArray, List.getElem_cons_zero, List.getElem_cons_succ, List.setIfInBounds_toArray, List.set_cons_zero, List.set_cons_succ]
      refine wpAnyH_take (i := 6) (v := ?_) rfl (by kernel_rfl) (by kernel_rfl) (by kernel_rfl) (fun _ _ _ h => h) (Or.inl ⟨by rfl, ?_⟩) (by assumption) ?_
      rotate_left
      focus (intro w hSw; have p := hSw.ptr; have b1 := hSw.box 1 _ rfl; have b2 := hSw.box 2 _ rfl; go_simp; first | done | with_reducible rfl)
      simp only [Act.put, List.getElem_toArray, List.getElem_cons_zero, List.getElem_cons_succ, List.setIfInBounds_toArray, List.set_cons_zero, List.set_cons_succ]
      refine wpAnyH_take (i := 7) (v := ?_) rfl (by kernel_rfl) (by kernel_rfl) (by kernel_rfl) (fun _ _ _ h => h) (Or.inl ⟨by rfl, ?_⟩) (by assumption) ?_
      rotate_left
      focus (intro w hSw; have p := hSw.ptr; have b1 := hSw.box 1 _ rfl; have b2 := hSw.box 2 _ rfl; go_simp; first | done | with_reducible rfl)
      simp only [Act.put, List.getElem_toArray, List.getElem_cons_zero, List.getElem_cons_succ, List.setIfInBounds_toArray, List.set_cons_zero, List.set_cons_succ]
      refine wpAnyH_ready (rs := [4, 8]) (by kernel_rfl) (by simp) ?_
      refine AllReadyH.cons (o := _) rfl (fun K hK => ?_) (AllReadyH.cons (o := _) rfl (fun K hK => ?_) AllReadyH.nil)
      · go_simp
        refine (HSZ.out).mono ?_
        rintro e w3 ⟨sv3, q3, rfl, hI3, hk3, hb3, hc3⟩
        have HI3 := Lib.hid hI3
        have HK3 := Lib.hid hk3
        have HB3 := Lib.hid hb3
        have HL3 := Lib.hid (hHeld.keep HPB2.out hk3)
        clear hI3 hk3 hb3
        go_simp
        refine hK.out _ _ HL3.out (fun hHeld => ?_)
        clear hK K
        try simp only [Act.put, List.getElem_toArray, List.getElem_cons_zero, List.getElem_cons_succ, List.setIfInBounds_toArray, List.set_cons_zero, List.set_cons_succ]
        refine wpAnyH_ready (rs := [8]) (by kernel_rfl) (by simp) ?_
        refine AllReadyH.cons (o := _) rfl (fun K hK => ?_) AllReadyH.nil
        go_simp
        refine hK.out _ _ hHeld (fun hHeld => ?_)
        clear hK K
        try simp only [Act.put, List.getElem_toArray, List.getElem_cons_zero, List.getElem_cons_succ, List.setIfInBounds_toArray, List.set_cons_zero, List.set_cons_succ]
        refine wpAnyH_ready (rs := [9]) (by kernel_rfl) (by simp) ?_
        refine AllReadyH.cons (o := _) rfl (fun K hK => ?_) AllReadyH.nil
        go_simp
        have HIX := Lib.hid (idx34 w.heap.size fl.fc.fs fld a8 n8 c8 w3 (vrs_keep HK3.out HVS.out) (HK3.out _ _ HZW.out (pl_str _)))
        refine HIX.out.mono ?_
        rintro e w4 ⟨rfl, hb4⟩
        have HI4 := Lib.hid (HI3.out.bel hb4)
        have HK4 := Lib.hid (HK3.out.trans (Keeps.of_below hb4))
        have HB4 := Lib.hid (HB3.out.trans (hb4.mono HI3.out.hB))
        have HL4 := Lib.hid (hHeld.bel hb4)
        clear hb4 HIX
        go_simp
        refine hK.out _ _ HL4.out (fun hHeld => ?_)
        clear hK K
        try simp only [Act.put, List.getElem_toArray, List.getElem_cons_zero, List.getElem_cons_succ, List.setIfInBounds_toArray, List.set_cons_zero, List.set_cons_succ]
        refine wpAnyH_take (i := 10) (v := ?_) rfl (by kernel_rfl) (by kernel_rfl) (by kernel_rfl) (fun _ _ _ h => h) (Or.inl ⟨by rfl, ?_⟩) (by assumption) ?_
        rotate_left
        focus (intro w hSw; have p := hSw.ptr; have b1 := hSw.box 1 _ rfl; have b2 := hSw.box 2 _ rfl; go_simp; first | done | with_reducible rfl)
        simp only [Act.put, List.getElem_toArray, List.getElem_cons_zero, List.getElem_cons_succ, List.setIfInBounds_toArray, List.set_cons_zero, List.set_cons_succ]
        refine wpAnyH_take (i := 11) (v := ?_) rfl (by kernel_rfl) (by kernel_rfl) (by kernel_rfl) (fun _ _ _ h => h) (Or.inl ⟨by rfl, ?_⟩) (by assumption) ?_
        rotate_left
        focus (intro w hSw; have p := hSw.ptr; have b1 := hSw.box 1 _ rfl; have b2 := hSw.box 2 _ rfl; go_simp; first | done | with_reducible rfl)
        simp only [Act.put, List.getElem_toArray, List.getElem_cons_zero, List.getElem_cons_succ, List.setIfInBounds_toArray, List.set_cons_zero, List.set_cons_succ]
        refine wpAnyH_done (by kernel_rfl) ?_ _
        clear hHeld
        have hsb := HSBD.out
        have hib := HIXB.out
        have HFN : Hid (∀ r : Int, r = slotF i.fs s fld → IPost i w c 2000 (.int .i64 (slotF i.fs s fld)) (.returned (.int .i64 r)) _) := Lib.hid (fun r hr => ⟨sv3, q3, by rw [hr], HI4.out, HKW2.out.trans HK4.out, HBW2.out.trans HB4.out, by omega⟩)
        go_wp2
        go_ret
        refine HFN.out (IntKind.i64.wrap ((sizeF i.fs fl.fc.sup : Int) + ixI (ixN Vr.name fl.fc.fs fld))) ?_
        rw [HANS.out]
        exact wi64 _ (by omega) (by omega)
      · go_simp
        refine hK.out _ _ hHeld (fun hHeld => ?_)
        clear hK K
        try simp only [Act.put, List.getElem_toArray, List.getElem_cons_zero, List.getElem_cons_succ, List.setIfInBounds_toArray, List.set_cons_zero, List.set_cons_succ]
        refine wpAnyH_ready (rs := [4]) (by kernel_rfl) (by simp) ?_
        refine AllReadyH.cons (o := _) rfl (fun K hK => ?_) AllReadyH.nil
        go_simp
        refine (HSZ.out).mono ?_
        rintro e w3 ⟨sv3, q3, rfl, hI3, hk3, hb3, hc3⟩
        have HI3 := Lib.hid hI3
        have HK3 := Lib.hid hk3
        have HB3 := Lib.hid hb3
        have HL3 := Lib.hid (hHeld.keep HPB2.out hk3)
        clear hI3 hk3 hb3
        go_simp
        refine hK.out _ _ HL3.out (fun hHeld => ?_)
        clear hK K
        try simp only [Act.put, List.getElem_toArray, List.getElem_cons_zero, List.getElem_cons_succ, List.setIfInBounds_toArray, List.set_cons_zero, List.set_cons_succ]
        refine wpAnyH_ready (rs := [9]) (by kernel_rfl) (by simp) ?_
        refine AllReadyH.cons (o := _) rfl (fun K hK => ?_) AllReadyH.nil
        go_simp
        have HIX := Lib.hid (idx34 w.heap.size fl.fc.fs fld a8 n8 c8 w3 (vrs_keep HK3.out HVS.out) (HK3.out _ _ HZW.out (pl_str _)))
        refine HIX.out.mono ?_
        rintro e w4 ⟨rfl, hb4⟩
        have HI4 := Lib.hid (HI3.out.bel hb4)
        have HK4 := Lib.hid (HK3.out.trans (Keeps.of_below hb4))
        have HB4 := Lib.hid (HB3.out.trans (hb4.mono HI3.out.hB))
        have HL4 := Lib.hid (hHeld.bel hb4)
        clear hb4 HIX
        go_simp
        refine hK.out _ _ HL4.out (fun hHeld => ?_)
        clear hK K
        try simp only [Act.put, List.getElem_toArray, List.getElem_cons_zero, List.getElem_cons_succ, List.setIfInBounds_toArray, List.set_cons_zero, List.set_cons_succ]
        refine wpAnyH_take (i := 10) (v := ?_) rfl (by kernel_rfl) (by kernel_rfl) (by kernel_rfl) (fun _ _ _ h => h) (Or.inl ⟨by rfl, ?_⟩) (by assumption) ?_
        rotate_left
        focus (intro w hSw; have p := hSw.ptr; have b1 := hSw.box 1 _ rfl; have b2 := hSw.box 2 _ rfl; go_simp; first | done | with_reducible rfl)
        simp only [Act.put, List.getElem_toArray, List.getElem_cons_zero, List.getElem_cons_succ, List.setIfInBounds_toArray, List.set_cons_zero, List.set_cons_succ]
        refine wpAnyH_take (i := 11) (v := ?_) rfl (by kernel_rfl) (by kernel_rfl) (by kernel_rfl) (fun _ _ _ h => h) (Or.inl ⟨by rfl, ?_⟩) (by assumption) ?_
        rotate_left
        focus (intro w hSw; have p := hSw.ptr; have b1 := hSw.box 1 _ rfl; have b2 := hSw.box 2 _ rfl; go_simp; first | done | with_reducible rfl)
        simp only [Act.put, List.getElem_toArray, List.getElem_cons_zero, List.getElem_cons_succ, List.setIfInBounds_toArray, List.set_cons_zero, List.set_cons_succ]
        refine wpAnyH_done (by kernel_rfl) ?_ _
        clear hHeld
        have hsb := HSBD.out
        have hib := HIXB.out
        have HFN : Hid (∀ r : Int, r = slotF i.fs s fld → IPost i w c 2000 (.int .i64 (slotF i.fs s fld)) (.returned (.int .i64 r)) _) := Lib.hid (fun r hr => ⟨sv3, q3, by rw [hr], HI4.out, HKW2.out.trans HK4.out, HBW2.out.trans HB4.out, by omega⟩)
        go_wp2
        go_ret
        refine HFN.out (IntKind.i64.wrap ((sizeF i.fs fl.fc.sup : Int) + ixI (ixN Vr.name fl.fc.fs fld))) ?_
        rw [HANS.out]
        exact wi64 _ (by omega) (by omega)
    · go_simp
      refine hK.out _ _ (hHeld.bel (below1 _ _)) (fun hHeld => ?_)
      clear hK K
      try simp only [Act.put, List.getElem_toArray, List.getElem_cons_zero, List.getElem_cons_succ, List.setIfInBounds_toArray, List.set_cons_zero, List.set_cons_succ]
      refine wpAnyH_ready (rs := [6]) (by kernel_rfl) (by simp) ?_
      refine AllReadyH.cons (o := _) rfl (fun K hK => ?_) AllReadyH.nil
      go_simp
      refine HFB.out.mono ?_
      rintro e w1 ⟨sv1, q1, rfl, hT1, hs1, hc1⟩
      simp only [Option.getD_none, Option.isSome_none, Option.getD_some, Option.isSome_some, eE, zT, tyV]
      have HO := Lib.hid (HI0.out.ownset hT1 hs1)
      have HLS := Lib.hid (hHeld.keep HPL.out hs1.keeps)
      have hr0 := HO.out.1.cell 0
      have hr1 := HO.out.1.cell 1
      have hf0 := HO.out.1.frozen 0
      have hf1 := HO.out.1.frozen 1
      simp only [List.getElem?_cons_zero, List.getElem?_cons_succ] at hr0 hr1
      have hqe : (w.alloc (.cells #[.string fld] 9)).drew.heap.size = w.heap.size + 1 := by simp [World.drew]
      rw [hqe] at hr0 hr1 hf0 hf1
      clear hqe
      have hsz : w.heap.size + 1 < w1.heap.size := by have := HO.out.1.lt; simpa using this
      clear hT1 hs1
      go_simp
      refine hK.out _ _ HLS.out (fun hHeld => ?_)
      clear hK K
      try simp only [Act.put, List.getElem_toArray, List.getElem_cons_zero, List.getElem_cons_succ, List.setIfInBounds_toArray, List.set_cons_zero, List.set_cons_succ]
      refine wpAnyH_take (i := 7) (v := ?_) rfl (by kernel_rfl) (by kernel_rfl) (by kernel_rfl) (fun _ _ _ h => h) (Or.inl ⟨by rfl, ?_⟩) (by assumption) ?_
      rotate_left
      focus (intro w hSw; have p := hSw.ptr; have b0 := hSw.box 0 _ rfl; go_simp; first | done | with_reducible rfl)
      simp only [Act.put, List.getElem_toArray, List.getElem_cons_zero, List.getElem_cons_succ, List.setIfInBounds_toArray, List.set_cons_zero, List.set_cons_succ]
      refine wpAnyH_take (i := 8) (v := ?_) rfl (by kernel_rfl) (by kernel_rfl) (by kernel_rfl) (fun _ _ _ h => h) (Or.inl ⟨by rfl, ?_⟩) (by assumption) ?_
      rotate_left
      focus (intro w hSw; have p := hSw.ptr; have b0 := hSw.box 0 _ rfl; go_simp; first | done | with_reducible rfl)
      simp only [Act.put, List.getElem_toArray, List.getElem_cons_zero, List.getElem_cons_succ, List.setIfInBounds_toArray, List.set_cons_zero, List.set_cons_succ]
      refine wpAnyH_take (i := 9) (v := ?_) rfl (by kernel_rfl) (by kernel_rfl) (by kernel_rfl) (fun _ _ _ h => h) (Or.inl ⟨by rfl, ?_⟩) (by assumption) ?_
      rotate_left
      focus (intro w hSw; have p := hSw.ptr; have b0 := hSw.box 0 _ rfl; go_simp; first | done | with_reducible rfl)
      simp only [Act.put, List.getElem_toArray, List.getElem_cons_zero, List.getElem_cons_succ, List.setIfInBounds_toArray, List.set_cons_zero, List.set_cons_succ]
      refine wpAnyH_take (i := 10) (v := ?_) rfl (by kernel_rfl) (by kernel_rfl) (by kernel_rfl) (fun _ _ _ h => h) (Or.inl ⟨by rfl, ?_⟩) (by assumption) ?_
      rotate_left
      focus (intro w hSw; have p := hSw.ptr; have b0 := hSw.box 0 _ rfl; go_simp; first | done | with_reducible rfl)
      simp only [Act.put, List.getElem_toArray, List.getElem_cons_zero, List.getElem_cons_succ, List.setIfInBounds_toArray, List.set_cons_zero, List.set_cons_succ]
      refine wpAnyH_take (i := 12) (v := ?_) rfl (by kernel_rfl) (by kernel_rfl) (by kernel_rfl) (fun _ _ _ h => h) (Or.inl ⟨by rfl, ?_⟩) (by assumption) ?_
      rotate_left
      focus (intro w hSw; have p := hSw.ptr; have b0 := hSw.box 0 _ rfl; go_simp; first | done | with_reducible rfl)
      simp only [Act.put, List.getElem_toArray, List.getElem_cons_zero, List.getElem_cons_succ, List.setIfInBounds_toArray, List.set_cons_zero, List.set_cons_succ]
      refine wpAnyH_ready (rs := [13]) (by kernel_rfl) (by simp) ?_
      refine AllReadyH.cons (o := _) rfl (fun K hK => ?_) AllReadyH.nil
      go_simp
      have HM2 := Lib.hid (((Mods.refl (· = (w.alloc (.cells #[.string fld] 9)).drew.heap.size) w1).setCell (p := ⟨(w.alloc (.cells #[.string fld] 9)).drew.heap.size, 0, none⟩) (.inl rfl) (.string pn)).setCell (p := ⟨(w.alloc (.cells #[.string fld] 9)).drew.heap.size, 1, none⟩) (.inl rfl) (.bool pa))
      obtain ⟨hZI, hZK, hZB⟩ := HO.out.2 _ HM2.out
      have HZI := Lib.hid hZI
      have HZK := Lib.hid hZK
      have HZB := Lib.hid hZB
      have HLZ := Lib.hid (HLSB.out.keep HPL.out HZK.out)
      have hqe : (w.alloc (.cells #[.string fld] 9)).drew.heap.size = w.heap.size + 1 := by simp [World.drew]
      rw [hqe] at HLZ HZI HZK HZB
      clear hZI hZK hZB HO HLS
      refine hK.out _ _ HLZ.out (fun hHeld => ?_)
      clear hK K
      try simp only [Act.put, List.getElem_toArray, List.getElem_cons_zero, List.getElem_cons_succ, List.setIfInBounds_toArray, List.set_cons_zero, List.set_cons_succ]
      refine wpAnyH_take (i := 14) (v := ?_) rfl (by kernel_rfl) (by kernel_rfl) (by kernel_rfl) (fun _ _ _ h => h) (Or.inl ⟨by rfl, ?_⟩) (by assumption) ?_
      rotate_left
      focus (intro w hSw; have p := hSw.ptr; have b0 := hSw.box 0 _ rfl; go_simp; first | done | with_reducible rfl)
      simp only [Act.put, List.getElem_toArray, List.getElem_cons_zero, List.getElem_cons_succ, List.setIfInBounds_toArray, List.set_cons_zero, List.set_cons_succ]
      refine wpAnyH_done (by kernel_rfl) ?_ _
      have HZ0 := Lib.hid (hHeld.box 0 _ rfl)
      clear hHeld
      have HKW := Lib.hid ((Keeps.of_below HBX.out).trans HZK.out)
      have HBW := Lib.hid ((HBX.out.mono HhB.out).trans HZB.out)
      have HF := Lib.hid (file11 i sv1 q1 _ HZI.out pc hpc)
      go_wp2_with fail
      refine HF.out.mono ?_
      rintro e w2 ⟨cs, rfl, hfl, hb2⟩
      have HZ2 := Lib.hid ((hb2.cell (World.block_lt_of_cell? _ _ HZ0.out)).trans HZ0.out)
      have HI2 := Lib.hid (HZI.out.bel hb2)
      have HK2 := Lib.hid (HKW.out.trans (Keeps.of_below hb2))
      have HB2 := Lib.hid (HBW.out.trans (hb2.mono HZI.out.hB))
      have HSM2 : Hid (((flAt i.fs pc).getD zFl).fc.sup.size ≤ maxLen ∧ ((flAt i.fs pc).getD zFl).fc.fs.length ≤ 12) := Lib.hid (by have h := HI2.out.small pc; exact ⟨by have := h.sup; unfold maxLen; omega, h.fs⟩)
      generalize (flAt i.fs pc).getD zFl = fl at *
      obtain ⟨a8, n8, c8, a9, n9, c9, a1, n1, c1, a2, n2, c2, a3, n3, c3, a4, n4, c4, a5, n5, c5, a0, n0, c0, rfl, hfc, _⟩ := hfl
      obtain ⟨_, _, _, _, _, _, he, hf8, hf9⟩ := hfc
      simp only [List.cons.injEq, Value.slice.injEq, true_and, and_true] at he
      obtain ⟨⟨rfl, rfl, rfl⟩, rfl, rfl, rfl⟩ := he
      have hbW := (below1 w2 (.cells #[.string fl.fc.name, .string fl.fc.sup, .slice a8 n8 c8, .slice a9 n9 c9, .slice a1 n1 c1, .slice a2 n2 c2, .slice a3 n3 c3, .slice a4 n4 c4, .slice a5 n5 c5, .slice a0 n0 c0] 44)).drew
      have HIW := Lib.hid (HI2.out.bel hbW)
      have HVS := Lib.hid (vrs_keep (Keeps.of_below hbW) hf8)
      have HSZ := Lib.hid (size16 i HLI.out sv1 q1 _ HIW.out (by omega) fl.fc.sup HSM2.out.1)
      have HZW := Lib.hid ((hbW.cell (World.block_lt_of_cell? _ _ HZ2.out)).trans HZ2.out)
      have HKW2 := Lib.hid (HK2.out.trans (Keeps.of_below hbW))
      have HBW2 := Lib.hid (HB2.out.trans (hbW.mono HI2.out.hB))
      have hXW : Blk (w2.alloc (.cells #[.string fl.fc.name, .string fl.fc.sup, .slice a8 n8 c8, .slice a9 n9 c9, .slice a1 n1 c1, .slice a2 n2 c2, .slice a3 n3 c3, .slice a4 n4 c4, .slice a5 n5 c5, .slice a0 n0 c0] 44)).drew w2.heap.size [.string fl.fc.name, .string fl.fc.sup, .slice a8 n8 c8, .slice a9 n9 c9, .slice a1 n1 c1, .slice a2 n2 c2, .slice a3 n3 c3, .slice a4 n4 c4, .slice a5 n5 c5, .slice a0 n0 c0] 44 := Blk.dr (Blk.new w2 [.string fl.fc.name, .string fl.fc.sup, .slice a8 n8 c8, .slice a9 n9 c9, .slice a1 n1 c1, .slice a2 n2 c2, .slice a3 n3 c3, .slice a4 n4 c4, .slice a5 n5 c5, .slice a0 n0 c0] 44)
      have HPB2 : Hid (∀ v ∈ [Value.string fl.fc.name, .string fl.fc.sup, .slice a8 n8 c8, .slice a9 n9 c9, .slice a1 n1 c1, .slice a2 n2 c2, .slice a3 n3 c3, .slice a4 n4 c4, .slice a5 n5 c5, .slice a0 n0 c0], Pl v) := Lib.hid (by
        intro v hv
        simp only [List.mem_cons, List.not_mem_nil, or_false] at hv
        rcases hv with rfl | rfl | rfl | rfl | rfl | rfl | rfl | rfl | rfl | rfl
        all_goals first | exact pl_str _ | exact pl_slice _ _ _)
      have HLW : Hid (LS i w2.heap.size [Value.string fl.fc.name, .string fl.fc.sup, .slice a8 n8 c8, .slice a9 n9 c9, .slice a1 n1 c1, .slice a2 n2 c2, .slice a3 n3 c3, .slice a4 n4 c4, .slice a5 n5 c5, .slice a0 n0 c0] (w2.alloc (.cells #[.string fl.fc.name, .string fl.fc.sup, .slice a8 n8 c8, .slice a9 n9 c9, .slice a1 n1 c1, .slice a2 n2 c2, .slice a3 n3 c3, .slice a4 n4 c4, .slice a5 n5 c5, .slice a0 n0 c0] 44)).drew) := Lib.hid ⟨HIW.out.ptr, fun j v hv => by rw [hXW.cell]; exact hv⟩
      have HSBD : Hid (sizeF i.fs fl.fc.sup ≤ 4000) := Lib.hid (by
        have h1 := szL_le i.fs (fun s => (HI2.out.small s).fs) (ab (faces i.fs) fl.fc.sup).1
        have h2 := ab_len (faces i.fs) fl.fc.sup
        have h3 := HLI.out
        have h4 : (faces i.fs).length = i.fs.length := by simp [faces]
        unfold sizeF
        omega)
      have HIXB : Hid (-1 ≤ ixI (ixN Vr.name fl.fc.fs fld) ∧ ixI (ixN Vr.name fl.fc.fs fld) ≤ 12) := Lib.hid (by
        cases hix : ixN Vr.name fl.fc.fs fld with
        | none => simp [ixI]
        | some k => have := ixN_lt hix; have h2 := HSM2.out.2; simp only [ixI]; omega)
      clear HF hf8 hf9 hb2 hbW hXW HKW HBW HZI HZK HZB HI2 HB2 HK2 HZ2 HZ0
      go_upto_region 7 with fail
      refine wp_region_held_drew (S := fun z => LS i w2.heap.size [Value.string fl.fc.name, .string fl.fc.sup, .slice a8 n8 c8, .slice a9 n9 c9, .slice a1 n1 c1, .slice a2 n2 c2, .slice a3 n3 c3, .slice a4 n4 c4, .slice a5 n5 c5, .slice a0 n0 c0] z) (by kernel_rfl) ?_ (fun hHeld => ?_)
      · exact HLW.out
      refine wpAnyH_take (i := 0) (v := ?_) rfl (by kernel_rfl) (by kernel_rfl) (by kernel_rfl) (fun _ _ _ h => h) (Or.inl ⟨by rfl, ?_⟩) (by assumption) ?_
      rotate_left
      focus (intro w hSw; have p := hSw.ptr; have b1 := hSw.box 1 _ rfl; have b2 := hSw.box 2 _ rfl; go_simp; first | done | with_reducible rfl)
      simp only [Act.put, List.getElem_toArray, List.getElem_cons_zero, List.setIfInBounds_toArray, List.set_cons_zero, List.set_cons_succ]
      refine wpAnyH_take (i := 1) (v := ?_) rfl (by kernel_rfl) (by kernel_rfl) (by kernel_rfl) (fun _ _ _ h => h) (Or.inl ⟨by rfl, ?_⟩) (by assumption) ?_
      rotate_left
      focus (intro w hSw; have p := hSw.ptr; have b1 := hSw.box 1 _ rfl; have b2 := hSw.box 2 _ rfl; go_simp; first | done | with_reducible rfl)
      simp only [Act.put, List.getElem_toArray, List.getElem_cons_zero, List.getElem_cons_succ, List.setIfInBounds_toArray, List.set_cons_zero, List.set_cons_succ]
      refine wpAnyH_take (i := 2) (v := ?_) rfl (by kernel_rfl) (by kernel_rfl) (by kernel_rfl) (fun _ _ _ h => h) (Or.inl ⟨by rfl, ?_⟩) (by assumption) ?_
      rotate_left
      focus (intro w hSw; have p := hSw.ptr; have b1 := hSw.box 1 _ rfl; have b2 := hSw.box 2 _ rfl; go_simp; first | done | with_reducible rfl)
      simp only [Act.put, List.getElem_toArray, List.getElem_cons_zero, List.getElem_cons_succ, List.setIfInBounds_toArray, List.set_cons_zero, List.set_cons_succ]
      refine wpAnyH_take (i := 3) (v := ?_) rfl (by kernel_rfl) (by kernel_rfl) (by kernel_rfl) (fun _ _ _ h => h) (Or.inl ⟨by rfl, ?_⟩) (by assumption) ?_
      rotate_left
      focus (intro w hSw; have p := hSw.ptr; have b1 := hSw.box 1 _ rfl; have b2 := hSw.box 2 _ rfl; go_simp; first | done | with_reducible rfl)
      simp only [Act.put, List.getElem_toArray, List.getElem_cons_zero, List.getElem_cons_succ, List.setIfInBounds_toArray, List.set_cons_zero, List.set_cons_succ]
      refine wpAnyH_take (i := 5) (v := ?_) rfl (by kernel_rfl) (by kernel_rfl) (by kernel_rfl) (fun _ _ _ h => h) (Or.inl ⟨by rfl, ?_⟩) (by assumption) ?_
      rotate_left
      focus (intro w hSw; have p := hSw.ptr; have b1 := hSw.box 1 _ rfl; have b2 := hSw.box 2 _ rfl; go_simp; first | done | with_reducible rfl)
      simp only [Act.put, List.getElem_toArray, List.getElem_cons_zero, List.getElem_cons_succ, List.setIfInBounds_toArray, List.set_cons_zero, List.set_cons_succ]
      refine wpAnyH_take (i := 6) (v := ?_) rfl (by kernel_rfl) (by kernel_rfl) (by kernel_rfl) (fun _ _ _ h => h) (Or.inl ⟨by rfl, ?_⟩) (by assumption) ?_
      rotate_left
      focus (intro w hSw; have p := hSw.ptr; have b1 := hSw.box 1 _ rfl; have b2 := hSw.box 2 _ rfl; go_simp; first | done | with_reducible rfl)
      simp only [Act.put, List.getElem_toArray, List.getElem_cons_zero, List.getElem_cons_succ, List.setIfInBounds_toArray, List.set_cons_zero, List.set_cons_succ]
      refine wpAnyH_take (i := 7) (v := ?_) rfl (by kernel_rfl) (by kernel_rfl) (by kernel_rfl) (fun _ _ _ h => h) (Or.inl ⟨by rfl, ?_⟩) (by assumption) ?_
      rotate_left
      focus (intro w hSw; have p := hSw.ptr; have b1 := hSw.box 1 _ rfl; have b2 := hSw.box 2 _ rfl; go_simp; first | done | with_reducible rfl)
      simp only [Act.put, List.getElem_toArray, List.getElem_cons_zero, List.getElem_cons_succ, List.setIfInBounds_toArray, List.set_cons_zero, List.set_cons_succ]
      refine wpAnyH_ready (rs := [4, 8]) (by kernel_rfl) (by simp) ?_
      refine AllReadyH.cons (o := _) rfl (fun K hK => ?_) (AllReadyH.cons (o := _) rfl (fun K hK => ?_) AllReadyH.nil)
      · go_simp
        refine (HSZ.out).mono ?_
        rintro e w3 ⟨sv3, q3, rfl, hI3, hk3, hb3, hc3⟩
        have HI3 := Lib.hid hI3
        have HK3 := Lib.hid hk3
        have HB3 := Lib.hid hb3
        have HL3 := Lib.hid (hHeld.keep HPB2.out hk3)
        clear hI3 hk3 hb3
        go_simp
        refine hK.out _ _ HL3.out (fun hHeld => ?_)
        clear hK K
        try simp only [Act.put, List.getElem_toArray, List.getElem_cons_zero, List.getElem_cons_succ, List.setIfInBounds_toArray, List.set_cons_zero, List.set_cons_succ]
        refine wpAnyH_ready (rs := [8]) (by kernel_rfl) (by simp) ?_
        refine AllReadyH.cons (o := _) rfl (fun K hK => ?_) AllReadyH.nil
        go_simp
        refine hK.out _ _ hHeld (fun hHeld => ?_)
        clear hK K
        try simp only [Act.put, List.getElem_toArray, List.getElem_cons_zero, List.getElem_cons_succ, List.setIfInBounds_toArray, List.set_cons_zero, List.set_cons_succ]
        refine wpAnyH_ready (rs := [9]) (by kernel_rfl) (by simp) ?_
        refine AllReadyH.cons (o := _) rfl (fun K hK => ?_) AllReadyH.nil
        go_simp
        have HIX := Lib.hid (idx34 w.heap.size fl.fc.fs fld a8 n8 c8 w3 (vrs_keep HK3.out HVS.out) (HK3.out _ _ HZW.out (pl_str _)))
        refine HIX.out.mono ?_
        rintro e w4 ⟨rfl, hb4⟩
        have HI4 := Lib.hid (HI3.out.bel hb4)
        have HK4 := Lib.hid (HK3.out.trans (Keeps.of_below hb4))
        have HB4 := Lib.hid (HB3.out.trans (hb4.mono HI3.out.hB))
        have HL4 := Lib.hid (hHeld.bel hb4)
        clear hb4 HIX
        go_simp
        refine hK.out _ _ HL4.out (fun hHeld => ?_)
        clear hK K
        try simp only [Act.put, List.getElem_toArray, List.getElem_cons_zero, List.getElem_cons_succ, List.setIfInBounds_toArray, List.set_cons_zero, List.set_cons_succ]
        refine wpAnyH_take (i := 10) (v := ?_) rfl (by kernel_rfl) (by kernel_rfl) (by kernel_rfl) (fun _ _ _ h => h) (Or.inl ⟨by rfl, ?_⟩) (by assumption) ?_
        rotate_left
        focus (intro w hSw; have p := hSw.ptr; have b1 := hSw.box 1 _ rfl; have b2 := hSw.box 2 _ rfl; go_simp; first | done | with_reducible rfl)
        simp only [Act.put, List.getElem_toArray, List.getElem_cons_zero, List.getElem_cons_succ, List.setIfInBounds_toArray, List.set_cons_zero, List.set_cons_succ]
        refine wpAnyH_take (i := 11) (v := ?_) rfl (by kernel_rfl) (by kernel_rfl) (by kernel_rfl) (fun _ _ _ h => h) (Or.inl ⟨by rfl, ?_⟩) (by assumption) ?_
        rotate_left
        focus (intro w hSw; have p := hSw.ptr; have b1 := hSw.box 1 _ rfl; have b2 := hSw.box 2 _ rfl; go_simp; first | done | with_reducible rfl)
        simp only [Act.put, List.getElem_toArray, List.getElem_cons_zero, List.getElem_cons_succ, List.setIfInBounds_toArray, List.set_cons_zero, List.set_cons_succ]
        refine wpAnyH_done (by kernel_rfl) ?_ _
        clear hHeld
        have hsb := HSBD.out
        have hib := HIXB.out
        have HFN : Hid (∀ r : Int, r = slotF i.fs s fld → IPost i w c 2000 (.int .i64 (slotF i.fs s fld)) (.returned (.int .i64 r)) _) := Lib.hid (fun r hr => ⟨sv3, q3, by rw [hr], HI4.out, HKW2.out.trans HK4.out, HBW2.out.trans HB4.out, by omega⟩)
        go_wp2
        go_ret
        refine HFN.out (IntKind.i64.wrap ((sizeF i.fs fl.fc.sup : Int) + ixI (ixN Vr.name fl.fc.fs fld))) ?_
        rw [HANS.out]
        exact wi64 _ (by omega) (by omega)
      · go_simp
        refine hK.out _ _ hHeld (fun hHeld => ?_)
        clear hK K
        try simp only [Act.put, List.getElem_toArray, List.getElem_cons_zero, List.getElem_cons_succ, List.setIfInBounds_toArray, List.set_cons_zero, List.set_cons_succ]
        refine wpAnyH_ready (rs := [4]) (by kernel_rfl) (by simp) ?_
        refine AllReadyH.cons (o := _) rfl (fun K hK => ?_) AllReadyH.nil
        go_simp
        refine (HSZ.out).mono ?_
        rintro e w3 ⟨sv3, q3, rfl, hI3, hk3, hb3, hc3⟩
        have HI3 := Lib.hid hI3
        have HK3 := Lib.hid hk3
        have HB3 := Lib.hid hb3
        have HL3 := Lib.hid (hHeld.keep HPB2.out hk3)
        clear hI3 hk3 hb3
        go_simp
        refine hK.out _ _ HL3.out (fun hHeld => ?_)
        clear hK K
        try simp only [Act.put, List.getElem_toArray, List.getElem_cons_zero, List.getElem_cons_succ, List.setIfInBounds_toArray, List.set_cons_zero, List.set_cons_succ]
        refine wpAnyH_ready (rs := [9]) (by kernel_rfl) (by simp) ?_
        refine AllReadyH.cons (o := _) rfl (fun K hK => ?_) AllReadyH.nil
        go_simp
        have HIX := Lib.hid (idx34 w.heap.size fl.fc.fs fld a8 n8 c8 w3 (vrs_keep HK3.out HVS.out) (HK3.out _ _ HZW.out (pl_str _)))
        refine HIX.out.mono ?_
        rintro e w4 ⟨rfl, hb4⟩
        have HI4 := Lib.hid (HI3.out.bel hb4)
        have HK4 := Lib.hid (HK3.out.trans (Keeps.of_below hb4))
        have HB4 := Lib.hid (HB3.out.trans (hb4.mono HI3.out.hB))
        have HL4 := Lib.hid (hHeld.bel hb4)
        clear hb4 HIX
        go_simp
        refine hK.out _ _ HL4.out (fun hHeld => ?_)
        clear hK K
        try simp only [Act.put, List.getElem_toArray, List.getElem_cons_zero, List.getElem_cons_succ, List.setIfInBounds_toArray, List.set_cons_zero, List.set_cons_succ]
        refine wpAnyH_take (i := 10) (v := ?_) rfl (by kernel_rfl) (by kernel_rfl) (by kernel_rfl) (fun _ _ _ h => h) (Or.inl ⟨by rfl, ?_⟩) (by assumption) ?_
        rotate_left
        focus (intro w hSw; have p := hSw.ptr; have b1 := hSw.box 1 _ rfl; have b2 := hSw.box 2 _ rfl; go_simp; first | done | with_reducible rfl)
        simp only [Act.put, List.getElem_toArray, List.getElem_cons_zero, List.getElem_cons_succ, List.setIfInBounds_toArray, List.set_cons_zero, List.set_cons_succ]
        refine wpAnyH_take (i := 11) (v := ?_) rfl (by kernel_rfl) (by kernel_rfl) (by kernel_rfl) (fun _ _ _ h => h) (Or.inl ⟨by rfl, ?_⟩) (by assumption) ?_
        rotate_left
        focus (intro w hSw; have p := hSw.ptr; have b1 := hSw.box 1 _ rfl; have b2 := hSw.box 2 _ rfl; go_simp; first | done | with_reducible rfl)
        simp only [Act.put, List.getElem_toArray, List.getElem_cons_zero, List.getElem_cons_succ, List.setIfInBounds_toArray, List.set_cons_zero, List.set_cons_succ]
        refine wpAnyH_done (by kernel_rfl) ?_ _
        clear hHeld
        have hsb := HSBD.out
        have hib := HIXB.out
        have HFN : Hid (∀ r : Int, r = slotF i.fs s fld → IPost i w c 2000 (.int .i64 (slotF i.fs s fld)) (.returned (.int .i64 r)) _) := Lib.hid (fun r hr => ⟨sv3, q3, by rw [hr], HI4.out, HKW2.out.trans HK4.out, HBW2.out.trans HB4.out, by omega⟩)
        go_wp2
        go_ret
        refine HFN.out (IntKind.i64.wrap ((sizeF i.fs fl.fc.sup : Int) + ixI (ixN Vr.name fl.fc.fs fld))) ?_
        rw [HANS.out]
        exact wi64 _ (by omega) (by omega)
end Go.Proofs.YthimpjfmelmhpaaDoor.Fc
