/-
  An image's names, an object's size; whether files are few.
-/
import Derived.Test.YthimpjfmelmhpaaDoorLkN
import Derived.Test.YthimpjfmelmhpaaDoorCsFew2
namespace Go.Proofs.YthimpjfmelmhpaaDoor.Fc
open Go.RowKit
set_option linter.unusedVariables false
set_option linter.unusedSimpArgs false

/-- how many fields there are in these classes -/
def szL (fs : List Fl) (cls : List ByteArray) : Nat := (cls.map (fun c => ((flAt fs c).getD zFl).fc.fs.length)).sum
def sizeF (fs : List Fl) (s : ByteArray) : Nat := szL fs (ab (faces fs) s).1
theorem szL_snoc (fs : List Fl) (l : List ByteArray) (k : Nat) (t : ByteArray) (h : l[k]? = some t) : szL fs (l.take (k + 1)) = szL fs (l.take k) + ((flAt fs t).getD zFl).fc.fs.length := by
  obtain ⟨hk, rfl⟩ := List.getElem?_eq_some_iff.1 h
  unfold szL
  rw [List.take_succ_eq_append_getElem hk, List.map_append, List.sum_append]
  simp
theorem szL_le (fs : List Fl) (h : ∀ s, ((flAt fs s).getD zFl).fc.fs.length ≤ 12) : ∀ l : List ByteArray, szL fs l ≤ l.length * 12
  | [] => by simp [szL]
  | t :: r => by
    have h1 := szL_le fs h r
    have h2 := h t
    have e : szL fs (t :: r) = ((flAt fs t).getD zFl).fc.fs.length + szL fs r := by unfold szL; rw [List.map_cons, List.sum_cons]
    rw [e, List.length_cons, Nat.add_mul]
    omega
theorem Im.small {i : ImS} {sv : Value} {c : Nat} {w : World} (h : Im i sv c w) (s : ByteArray) : Small ((flAt i.fs s).getD zFl).fc := by
  cases hf : flAt i.fs s with
  | none => exact small_zF
  | some f => exact h.tab.sm f.fc (List.mem_map.2 ⟨f, (flAt_mem hf).1, rfl⟩)
set_option maxHeartbeats 4000000 in
set_option maxRecDepth 100000 in
theorem size16 (i : ImS) (hL : i.fs.length ≤ 300) (sv : Value) (c : Nat) (w : World) (h : Im i sv c w) (hc : c < 100000000000) (s : ByteArray) (hs : s.size ≤ maxLen) :
    Calls Tryd.prog 16 #[.pointer (some ⟨i.im, 0, none⟩), .string s] w (IPost i w c 301 (.int .i64 (sizeF i.fs s))) := by
  have HU := Lib.hid (above32 i hL sv c _ h hc s hs)
  have HS12 : Hid (∀ s, ((flAt i.fs s).getD zFl).fc.fs.length ≤ 12) := Lib.hid (fun s => (h.small s).fs)
  have HLF : Hid ((faces i.fs).length ≤ 300) := Lib.hid (by simpa [faces] using hL)
  have HhB := Lib.hid h.hB
  clear h
  go_enter Tryd.func16, Tryd.ntmps16
  go_wp2_with fail
  refine HU.out.mono ?_
  rintro e w1 ⟨v, sv1, c1, rfl, hv, hI1, hk1, hb1, hc1⟩
  have HK1 := Lib.hid hk1
  have HI1 := Lib.hid hI1
  have HB1 := Lib.hid hb1
  obtain ⟨va, vc, rfl⟩ := hv.form
  obtain ⟨_, hvl, hvc, hvk⟩ := hv.at
  unfold maxLen at hvc
  have HV := Lib.hid hvk
  have hcl : Hid (∀ t ∈ (ab (faces i.fs) s).1, t.size ≤ maxLen) := Lib.hid (fun t ht => by have := ab_small HI1.out.tab.sm hs t ht; unfold maxLen; omega)
  have hcn : (ab (faces i.fs) s).1.length ≤ 301 := by have := ab_len (faces i.fs) s; have := HLF.out; omega
  have HSZ : Hid (sizeF i.fs s = szL i.fs (ab (faces i.fs) s).1) := Lib.hid rfl
  generalize (ab (faces i.fs) s).1 = cls at *
  clear hv hvk hI1 hk1 hb1 HU
  obtain ⟨N, hN⟩ : ∃ N, N = cls.length := ⟨_, rfl⟩
  rw [← hN] at hvl hcn ⊢
  have HN := Lib.hid hN
  clear hN
  go_wp2
  go_loopw [5, 14] (fun zz ii wr => ∃ j : Nat, j ≤ N ∧ ii = .int .i64 j ∧ zz = .int .i64 (szL i.fs (cls.take j) : Nat) ∧ Below w1.heap.size w1 wr) (fun _ ii _ => N - (intOf ii).toNat)
  case atStart => exact ⟨0, Nat.zero_le _, rfl, rfl, Below.refl _ _⟩
  case round =>
    obtain ⟨j, hj, rfl, rfl, hbr⟩ := hrel
    have hsr := hbr.size
    have HBR := Lib.hid hbr
    by_cases hlt : j < N
    · obtain ⟨t, ht⟩ : ∃ t, cls[j]? = some t := ⟨_, List.getElem?_eq_getElem (by have := HN.out; omega)⟩
      obtain ⟨g, o, cs, rfl, hcell, rfl⟩ := HV.out j t ht
      have hmem := hcl.out t (List.mem_of_getElem? ht)
      have k0 : wr.cell? ⟨g, o + j * 1, none⟩ = some (.string t) := (hbr.cell (World.block_lt_of_cell? _ _ (hcell 0 _ rfl))).trans (hcell 0 _ rfl)
      have hgl : g < wr.heap.size := World.block_lt_of_cell? _ _ k0
      have HZS := Lib.hid (szL_snoc i.fs cls j t ht)
      have hzl := szL_le i.fs HS12.out (cls.take j)
      have hzt : (cls.take j).length ≤ 301 := by have := List.length_take_le j cls; omega
      have h12 := HS12.out t
      clear hcell ht
      simp only [Nat.mul_one] at k0
      have HF := Lib.hid (file11 i sv1 c1 wr (HI1.out.bel hbr) t hmem)
      go_wp2_with fail
      refine HF.out.mono ?_
      rintro e w2 ⟨cs, rfl, hfl, hb2⟩
      generalize (flAt i.fs t).getD zFl = fl at *
      obtain ⟨a8, n8, c8, a9, n9, c9, a1, n1, c1, a2, n2, c2, a3, n3, c3, a4, n4, c4, a5, n5, c5, a0, n0, c0, rfl, hfc, _⟩ := hfl
      obtain ⟨_, _, _, _, _, _, he, hf8, hf9⟩ := hfc
      simp only [List.cons.injEq, Value.slice.injEq, true_and, and_true] at he
      obtain ⟨⟨rfl, rfl, rfl⟩, rfl, rfl, rfl⟩ := he
      have hn8 : n8 = fl.fc.fs.length := hf8.at.1
      rw [← hn8] at h12 HZS
      clear hn8
      have HB2 : Hid (Below w1.heap.size w1 (w2.alloc (.cells #[.string fl.fc.name, .string fl.fc.sup, .slice a8 n8 c8, .slice a9 n9 c9, .slice a1 n1 c1, .slice a2 n2 c2, .slice a3 n3 c3, .slice a4 n4 c4, .slice a5 n5 c5, .slice a0 n0 c0] 44))) := Lib.hid (HBR.out.trans ((hb2.trans ((below1 w2 _).mono hb2.size)).mono hsr))
      have hzs := HZS.out
      clear HF hf8 hf9 hb2 HZS
      go_wp2
      go_roundw
      case rel => exact ⟨j + 1, by omega, by go_num, by rw [hzs]; go_num, HB2.out⟩
      case measure => simp [intOf]; omega
    · have HE : Hid (szL i.fs (cls.take j) = sizeF i.fs s) := Lib.hid (by rw [HSZ.out, List.take_of_length_le (by have := HN.out; omega)])
      go_wp2
      go_ret
      exact ⟨sv1, c1, by show Ending.returned (.int .i64 (szL i.fs (cls.take j) : Nat)) = _; rw [HE.out], HI1.out.bel hbr, HK1.out.trans (Keeps.of_below hbr), HB1.out.trans (hbr.mono HI1.out.hB), hc1⟩
/-- one text behind a row of texts -/
theorem app_str2 {w : World} {B : Nat} {v : Value} {l : List ByteArray} (ho : w.ownsRow B 9 1 v l.length (strV l)) (hl : l.length ≤ 1000) (hB : B ≤ w.heap.size) (s : ByteArray) :
    ∃ v' w', (Builtin.append_ #[30, 30] 30 #[v, .slice (some ⟨w.heap.size, 0, none⟩) 1 1]).run Tryd.prog (w.alloc (.cells #[.string s] 9)) = .ok v' w' ∧ w'.ownsRow B 9 1 v' (l ++ [s]).length (strV (l ++ [s])) ∧ Mods (fun k => B ≤ k ∧ ∃ cur, (w.alloc (.cells #[.string s] 9)).heap[k]? = some (.cells cur 9 (0, 0))) (w.alloc (.cells #[.string s] 9)) w' := by
  obtain ⟨i, hi, hii⟩ := info9
  simp only [Prod.mk.injEq, Option.map_eq_some_iff] at hii
  obtain ⟨e1, e2, z, ez, e3⟩ := hii
  have ho2 : (w.alloc (.cells #[.string s] 9)).ownsRow B 9 1 v l.length (strV l) := by
    refine ⟨ho.1, ?_⟩
    rcases ho.2 with h | ⟨g, cap, cur, h1, h2, h3, h4⟩
    · exact .inl h
    · exact .inr ⟨g, cap, cur, h1, h2, ((below1 w _).block g (lt_of_block h3)).trans h3, h4⟩
  obtain ⟨v', w', hr, h2, h3, h4⟩ := run_append_own (P := Tryd.prog) (w.alloc (.cells #[.string s] 9)) B 30 30 9 i z 1 16 Tryd.underlying30 hi ez e1 e2 e3 (by decide) v l.length (strV l) ho2 ⟨w.heap.size, 0, none⟩ 1 1 [.string s] rfl (fun j u hu => by
      have hb := (Blk.new w [.string s] 9).cell j
      rw [Go.WideShapes.add_plain, Nat.zero_add]
      rw [hu] at hb
      exact hb) (by simp [Value.oneCell']) (by unfold maxLen; omega) (by omega) (by simp; omega)
  refine ⟨v', w', hr, ?_, grown_mods h3 ho2⟩
  have e : strV (l ++ [s]) = strV l ++ [.string s] := by simp [strV]
  rw [e, List.length_append]
  exact h2
def NPost (fs : List Fl) (w : World) (e : Ending) (w' : World) : Prop :=
  ∃ v, e = .returned v ∧ Sl w' 1 StrR (fs.map (fun f => f.fc.name)) v ∧ Below w.heap.size w w'
set_option maxHeartbeats 4000000 in
set_option maxRecDepth 100000 in
theorem names10 (i : ImS) (hL : i.fs.length ≤ 300) (sv : Value) (c : Nat) (w : World) (h : Im i sv c w) :
    Calls Tryd.prog 10 #[.pointer (some ⟨i.im, 0, none⟩)] w (NPost i.fs w) := by
  obtain ⟨_, hfl, hfc, hkk⟩ := h.fls.at
  unfold maxLen at hfc
  have HK := Lib.hid hkk
  have hp1 := h.files
  have hil := h.lt
  have HS0 : Hid (w.ownsRow w.heap.size 9 1 (.slice none 0 0) (([] : List ByteArray)).length (strV [])) := Lib.hid ⟨by simp [strV], .inl ⟨rfl, rfl⟩⟩
  clear h hkk
  generalize i.fa = fa at *
  go_enter Tryd.func10, Tryd.ntmps10
  go_wp2
  go_loopw [3, 13] (fun vv ii wr => ∃ (k : Nat) (v : Value), k ≤ i.fs.length ∧ v = vv ∧ ii = .int .i64 k ∧ Hid (wr.ownsRow w.heap.size 9 1 v ((i.fs.take k).map (fun f => f.fc.name)).length (strV ((i.fs.take k).map (fun f => f.fc.name)))) ∧ Hid (Below w.heap.size w wr)) (fun _ ii _ => i.fs.length - (intOf ii).toNat)
  case atStart => exact ⟨0, _, Nat.zero_le _, rfl, rfl, HS0, Lib.hid (Below.refl _ _)⟩
  case round =>
    obtain ⟨k, v, hk, rfl, rfl, HS, HB⟩ := hrel
    have hbr := HB.out
    have hsr := hbr.size
    by_cases hlt : k < i.fs.length
    · obtain ⟨x, hx⟩ : ∃ x, i.fs[k]? = some x := ⟨_, List.getElem?_eq_getElem hlt⟩
      obtain ⟨b, o, cs, rfl, hcell, hF⟩ := HK.out k x hx
      obtain ⟨a8, n8, c8, a9, n9, c9, a1, n1, c1, a2, n2, c2, a3, n3, c3, a4, n4, c4, a5, n5, c5, a0, n0, c0, rfl, _⟩ := id hF
      have k0 : wr.cell? ⟨b, o + k * 10, none⟩ = some (.string x.fc.name) := (hbr.cell (World.block_lt_of_cell? _ _ (hcell 0 _ rfl))).trans (hcell 0 _ rfl)
      have k1 := (hbr.cell (World.block_lt_of_cell? _ _ (hcell 1 _ rfl))).trans (hcell 1 _ rfl)
      have k2 := (hbr.cell (World.block_lt_of_cell? _ _ (hcell 2 _ rfl))).trans (hcell 2 _ rfl)
      have k3 := (hbr.cell (World.block_lt_of_cell? _ _ (hcell 3 _ rfl))).trans (hcell 3 _ rfl)
      have k4 := (hbr.cell (World.block_lt_of_cell? _ _ (hcell 4 _ rfl))).trans (hcell 4 _ rfl)
      have k5 := (hbr.cell (World.block_lt_of_cell? _ _ (hcell 5 _ rfl))).trans (hcell 5 _ rfl)
      have k6 := (hbr.cell (World.block_lt_of_cell? _ _ (hcell 6 _ rfl))).trans (hcell 6 _ rfl)
      have k7 := (hbr.cell (World.block_lt_of_cell? _ _ (hcell 7 _ rfl))).trans (hcell 7 _ rfl)
      have k8 := (hbr.cell (World.block_lt_of_cell? _ _ (hcell 8 _ rfl))).trans (hcell 8 _ rfl)
      have k9 := (hbr.cell (World.block_lt_of_cell? _ _ (hcell 9 _ rfl))).trans (hcell 9 _ rfl)
      have hgl : b < wr.heap.size := World.block_lt_of_cell? _ _ k0
      have HTN := Lib.hid (take_names i.fs k x hx)
      have hw1 := below1 wr (.cells #[.string x.fc.name, .string x.fc.sup, .slice a8 n8 c8, .slice a9 n9 c9, .slice a1 n1 c1, .slice a2 n2 c2, .slice a3 n3 c3, .slice a4 n4 c4, .slice a5 n5 c5, .slice a0 n0 c0] 44)
      have HW1 := Lib.hid hw1
      have hro : (wr.alloc (.cells #[.string x.fc.name, .string x.fc.sup, .slice a8 n8 c8, .slice a9 n9 c9, .slice a1 n1 c1, .slice a2 n2 c2, .slice a3 n3 c3, .slice a4 n4 c4, .slice a5 n5 c5, .slice a0 n0 c0] 44)).ownsRow w.heap.size 9 1 v ((i.fs.take k).map (fun f => f.fc.name)).length (strV ((i.fs.take k).map (fun f => f.fc.name))) := row_keep (fp := fun _ => False) HS.out (Mods.of_below hw1) (fun _ _ _ h => h)
      obtain ⟨v', w4, hap, ho4, hm4⟩ := app_str2 hro (by rw [List.length_map, List.length_take]; omega) (by simp; omega) x.fc.name
      have HO4 : Hid (w4.ownsRow w.heap.size 9 1 v' ((i.fs.take (k + 1)).map (fun f => f.fc.name)).length (strV ((i.fs.take (k + 1)).map (fun f => f.fc.name)))) := Lib.hid (by rw [HTN.out]; exact ho4)
      have HB4 : Hid (Below w.heap.size w w4) := Lib.hid (hbr.trans ((hw1.trans ((below1 _ _).mono hw1.size)).mono hsr |>.trans (hm4.below (fun k e => e.1) (by simp; omega))))
      have hse : (wr.alloc (.cells #[.string x.fc.name, .string x.fc.sup, .slice a8 n8 c8, .slice a9 n9 c9, .slice a1 n1 c1, .slice a2 n2 c2, .slice a3 n3 c3, .slice a4 n4 c4, .slice a5 n5 c5, .slice a0 n0 c0] 44)).heap.size = wr.heap.size + 1 := by simp
      rw [hse] at hap
      clear hcell hF hx hw1 hro ho4 hm4 hbr hse
      go_wp2_with (at_builtin; refine wpList_append_run rfl _ _ 30 rfl rfl rfl rfl hap ?_)
      go_wp2
      go_roundw
      case rel => exact ⟨k + 1, _, by omega, rfl, by go_num, HO4, HB4⟩
      case measure => simp [intOf]; omega
    · have hsl := row_strs HS.out
      rw [List.take_of_length_le (by omega)] at hsl
      have HSL := Lib.hid hsl
      clear hsl
      go_wp2
      go_ret
      exact ⟨_, rfl, HSL.out, hbr⟩
set_option maxHeartbeats 4000000 in
set_option maxRecDepth 100000 in
theorem few7 (fs : List Fl) (a : Option Addr) (n cp : Nat) (w : World) (h : Sl w 10 (FlR w) fs (.slice a n cp)) :
    Calls Tryd.prog 7 #[.slice a n cp] w (FewP ((∀ f ∈ fs, FewF f) ∧ fs.length ≤ 8) w) := by
  obtain ⟨hnn, hl, hcp, hkk⟩ := h.at
  unfold maxLen at hcp
  have HK := Lib.hid hkk
  have HN := Lib.hid hnn
  clear h hkk hnn
  go_enter Tryd.func7, Tryd.ntmps7
  go_wp2
  go_loopw [7] (fun ii wr => ∃ k : Nat, k ≤ n ∧ ii = .int .i64 k ∧ Hid (∀ f ∈ fs.take k, FewF f) ∧ Below w.heap.size w wr) (fun ii _ => n - (intOf ii).toNat)
  case atStart => exact ⟨0, Nat.zero_le _, rfl, Lib.hid (by simp), Below.refl _ _⟩
  case round =>
    obtain ⟨k, hk, rfl, HA, hbr⟩ := hrel
    have hsr := hbr.size
    have HBR := Lib.hid hbr
    by_cases hlt : k < n
    · obtain ⟨x, hx⟩ : ∃ x, fs[k]? = some x := ⟨_, List.getElem?_eq_getElem (by have := HN.out; omega)⟩
      obtain ⟨b, o, cs, rfl, hcell, hF⟩ := HK.out k x hx
      have hFw := hF.keep (Keeps.of_below hbr)
      obtain ⟨a8, n8, c8, a9, n9, c9, a1, n1, c1, a2, n2, c2, a3, n3, c3, a4, n4, c4, a5, n5, c5, a0, n0, c0, rfl, _⟩ := id hF
      have k0 : wr.cell? ⟨b, o + k * 10, none⟩ = some (.string x.fc.name) := (hbr.cell (World.block_lt_of_cell? _ _ (hcell 0 _ rfl))).trans (hcell 0 _ rfl)
      have k1 := (hbr.cell (World.block_lt_of_cell? _ _ (hcell 1 _ rfl))).trans (hcell 1 _ rfl)
      have k2 := (hbr.cell (World.block_lt_of_cell? _ _ (hcell 2 _ rfl))).trans (hcell 2 _ rfl)
      have k3 := (hbr.cell (World.block_lt_of_cell? _ _ (hcell 3 _ rfl))).trans (hcell 3 _ rfl)
      have k4 := (hbr.cell (World.block_lt_of_cell? _ _ (hcell 4 _ rfl))).trans (hcell 4 _ rfl)
      have k5 := (hbr.cell (World.block_lt_of_cell? _ _ (hcell 5 _ rfl))).trans (hcell 5 _ rfl)
      have k6 := (hbr.cell (World.block_lt_of_cell? _ _ (hcell 6 _ rfl))).trans (hcell 6 _ rfl)
      have k7 := (hbr.cell (World.block_lt_of_cell? _ _ (hcell 7 _ rfl))).trans (hcell 7 _ rfl)
      have k8 := (hbr.cell (World.block_lt_of_cell? _ _ (hcell 8 _ rfl))).trans (hcell 8 _ rfl)
      have k9 := (hbr.cell (World.block_lt_of_cell? _ _ (hcell 9 _ rfl))).trans (hcell 9 _ rfl)
      have hgl : b < wr.heap.size := World.block_lt_of_cell? _ _ k0
      have HFT := Lib.hid (few10m x _ (wr.alloc (.cells #[.string x.fc.name, .string x.fc.sup, .slice a8 n8 c8, .slice a9 n9 c9, .slice a1 n1 c1, .slice a2 n2 c2, .slice a3 n3 c3, .slice a4 n4 c4, .slice a5 n5 c5, .slice a0 n0 c0] 44)) (hFw.keep (Keeps.of_below (below1 wr _))))
      have HXX := Lib.hid hx
      clear hcell hF hFw hx hbr
      go_wp2_with fail
      refine HFT.out.mono ?_
      rintro e w2 ⟨r, rfl, hr, hb2⟩
      have HB2 : Hid (Below w.heap.size w w2) := Lib.hid (HBR.out.trans (((below1 wr _).trans (hb2.mono (by simp))).mono hsr))
      clear hb2 HFT
      cases r with
      | false =>
        clear hr
        go_wp2
        go_ret
        exact ⟨false, rfl, by simp, HB2.out⟩
      | true =>
        have HA2 := Lib.hid (all_snk2 HXX.out HA.out (hr rfl))
        clear hr
        go_wp2
        go_roundw
        case rel => exact ⟨k + 1, by omega, by go_num, HA2, HB2.out⟩
        case measure => simp [intOf]; omega
    · have HALL : Hid (∀ f ∈ fs, FewF f) := Lib.hid (by have h := HA.out; rw [List.take_of_length_le (by have := HN.out; omega)] at h; exact h)
      go_wp2
      go_ret
      exact ⟨_, rfl, fun h => ⟨HALL.out, by have := HN.out; have := of_decide_eq_true h; omega⟩, HBR.out⟩
end Go.Proofs.YthimpjfmelmhpaaDoor.Fc
