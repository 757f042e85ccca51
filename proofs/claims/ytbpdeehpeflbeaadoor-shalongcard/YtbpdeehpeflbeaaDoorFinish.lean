/-
  The state's finish.
-/
import Derived.Test.YtbpdeehpeflbeaaDoorTake
import Derived.Deep.LoopGhost
namespace Go.Proofs.YtbpdeehpeflbeaaDoor
open Go.RowKit

theorem Inv.move {b : Nat} {w w' : World} {L : List Nat} {t : Nat} (h : Inv b w L t) (hb : w'.heap[b]? = w.heap[b]?) (hk : w'.heap[0]? = w.heap[0]?) : Inv b w' L t := by
  obtain ⟨bl, hS, hp, hbl, hK, hg⟩ := h
  refine ⟨bl, ⟨hb.trans hS.1, hS.2⟩, hp, hbl, fun i hi => ?_, hg⟩
  rw [World.cell?_of_block (w := w) hk]
  exact hK i hi
theorem Inv.lt {b : Nat} {w : World} {L : List Nat} {t : Nat} (h : Inv b w L t) : b < w.heap.size := by obtain ⟨bl, hS, _⟩ := h; exact hS.lt
theorem Inv.zlt {b : Nat} {w : World} {L : List Nat} {t : Nat} (h : Inv b w L t) : 0 < w.heap.size := by have := h.lt; omega
theorem Inv.alloc {b : Nat} {w : World} {L : List Nat} {t : Nat} (h : Inv b w L t) (o : Obj) : Inv b (w.alloc o) L t :=
  h.move (Below.heap_alloc w o b h.lt) (Below.heap_alloc w o 0 h.zlt)
theorem Inv.used {b : Nat} {w : World} {L : List Nat} {t : Nat} (h : Inv b w L t) : w.cell? ⟨b, 72, none⟩ = some (.int .i64 ((L.length % 64 : Nat) : Int)) := by
  obtain ⟨bl, hS, _⟩ := h; exact hS.used
theorem Inv.total {b : Nat} {w : World} {L : List Nat} {t : Nat} (h : Inv b w L t) : w.cell? ⟨b, 73, none⟩ = some (.int .u64 (t : Int)) := by
  obtain ⟨bl, hS, _⟩ := h; exact hS.total

/-- a digest in block b -/
def DAt (b : Nat) (w : World) (l : List Nat) : Prop := w.heap[b]? = some (.cells (l.map U8).toArray 24 (0, 0)) ∧ l.length = 32
theorem digestOf_length (hs : List Nat) : (digestOf hs).length = 32 := by simp [digestOf]
theorem digestOf_getD (hs : List Nat) (k : Nat) (hk : k < 32) : (digestOf hs).getD k 0 = hs.getD (k / 4) 0 / 2 ^ (24 - 8 * (k % 4)) % 256 := by
  simp [digestOf, List.getD, hk]
def dk (l : List Nat) (k : Nat) : List Nat := l.take k ++ List.replicate (l.length - k) 0
theorem dk_set (l : List Nat) (k : Nat) (hk : k < l.length) : (dk l k).set k (l.getD k 0) = dk l (k + 1) := by
  unfold dk
  have hl : (l.take k).length = k := by rw [List.length_take]; omega
  rw [List.set_append_right _ _ (by omega), hl, Nat.sub_self, show l.length - k = (l.length - (k + 1)) + 1 by omega, List.replicate_succ, List.set_cons_zero, List.take_succ_eq_append_getElem hk, List.append_assoc]
  simp [List.getD, List.getElem?_eq_getElem hk, -List.take_append_getElem]
theorem dk_length (l : List Nat) (k : Nat) (hk : k ≤ l.length) : (dk l k).length = l.length := by simp [dk]; omega
theorem countB_length (n : Nat) : (countB n).length = 8 := by simp [countB]
theorem countB_getD (n k : Nat) (hk : k < 8) : (countB n).getD k 0 = n / 2 ^ (56 - 8 * k) % 256 := by simp [countB, List.getD, hk]
theorem div_pow_cast (N k : Nat) : ((N : Int) / 2 ^ k % 256) = ((N / 2 ^ k % 256 : Nat) : Int) := by simp
theorem DAt.cell {b : Nat} {w : World} {l : List Nat} (h : DAt b w l) (i : Nat) (hi : i < 32) : w.cell? ⟨b, i, none⟩ = some (.int .u8 ((l.getD i 0 : Nat) : Int)) := by
  have hl := h.2
  have e : w.cell? ⟨b, i, none⟩ = (l.map U8)[i]? := by simp [World.cell?, h.1]
  rw [e]
  simp [U8, List.getElem?_eq_getElem (show i < l.length by omega), List.getD]
theorem DAt.frozen {b : Nat} {w : World} {l : List Nat} (h : DAt b w l) (i : Nat) : w.frozen? ⟨b, i, none⟩ = false := by simp [World.frozen?, h.1]
theorem DAt.set_ {b : Nat} {w : World} {l : List Nat} (h : DAt b w l) (i v : Nat) : DAt b (w.setCell ⟨b, i, none⟩ (.int .u8 (v : Int))) (l.set i v) := by
  refine ⟨?_, by simpa using h.2⟩
  rw [heap_set w b i _ _ _ h.1, List.map_set]
  rfl
theorem DAt.range {b : Nat} {w : World} {l : List Nat} (h : DAt b w l) : w.rangeAt b 0 (l.map U8) := by
  intro j v hv
  have e : w.cell? ⟨b, 0 + j, none⟩ = (l.map U8)[j]? := by rw [Nat.zero_add]; simp [World.cell?, h.1]
  rw [e]; exact hv
theorem DAt.there {b : Nat} {w : World} {l : List Nat} (h : DAt b w l) : w.there b 0 32 := by
  intro j hj
  rw [Nat.zero_add]
  exact ⟨by rw [h.cell j hj]; rfl, h.frozen j⟩
theorem U8_one (l : List Nat) : ∀ v ∈ l.map U8, v.oneCell' = true := by
  intro v hv
  obtain ⟨n, _, rfl⟩ := List.mem_map.1 hv
  rfl
theorem info24 : (Tryd.prog.info? 24).map (·.size) = some 32 := by kernel_rfl

set_option maxHeartbeats 1600000 in
theorem finish_any (b : Nat) (w : World) (L : List Nat) (hL : L.length < 4294967296) (h : Inv b w L L.length) :
    Calls Tryd.prog 15 #[.pointer (some ⟨b, 0, none⟩)] w fun e w' => e = .returned (.agg ((shaOf L).map U8).toArray) ∧ Mod b w w' := by
  have hblt := h.lt
  obtain ⟨Z, hZ, HZ⟩ : ∃ Z : Array Value, (#[Value.int IntKind.u8 0, Value.int IntKind.u8 0, Value.int IntKind.u8 0, Value.int IntKind.u8 0, Value.int IntKind.u8 0, Value.int IntKind.u8 0, Value.int IntKind.u8 0, Value.int IntKind.u8 0, Value.int IntKind.u8 0, Value.int IntKind.u8 0, Value.int IntKind.u8 0, Value.int IntKind.u8 0, Value.int IntKind.u8 0, Value.int IntKind.u8 0, Value.int IntKind.u8 0, Value.int IntKind.u8 0, Value.int IntKind.u8 0, Value.int IntKind.u8 0, Value.int IntKind.u8 0, Value.int IntKind.u8 0, Value.int IntKind.u8 0, Value.int IntKind.u8 0, Value.int IntKind.u8 0, Value.int IntKind.u8 0, Value.int IntKind.u8 0, Value.int IntKind.u8 0, Value.int IntKind.u8 0, Value.int IntKind.u8 0, Value.int IntKind.u8 0, Value.int IntKind.u8 0, Value.int IntKind.u8 0, Value.int IntKind.u8 0] : Array Value) = Z ∧ Hid (Z = ((List.replicate 32 0).map U8).toArray) := ⟨_, rfl, Lib.hid rfl⟩
  have c73 := (h.alloc (.cells Z 24)).total
  have HI := Lib.hid (h.alloc (.cells Z 24))
  have w1 : (8 * (L.length : Int)) % 18446744073709551616 = ((8 * L.length : Nat) : Int) := by omega
  clear h
  go_enter Tryd.func15, Tryd.ntmps15
  go_wp2_with fail
  obtain ⟨w0, HW0⟩ : ∃ w0, Hid (w0 = w.alloc (.cells Z 24)) := ⟨_, Lib.hid rfl⟩
  rw [← HW0.out] at HI ⊢
  have hN : (8 * (L.length : Int)) = ((8 * L.length : Nat) : Int) := by omega
  rw [hN]
  clear hN w1 c73
  obtain ⟨N, HN⟩ : ∃ N, Hid (N = 8 * L.length) := ⟨_, Lib.hid rfl⟩
  rw [← HN.out]
  obtain ⟨rb, HRB⟩ : ∃ rb, Hid (rb = w.heap.size) := ⟨_, Lib.hid rfl⟩
  rw [← HRB.out]
  refine (put_any b _ L L.length 128 (by omega) HI.out).mono ?_
  clear hZ
  rintro e w1 ⟨rfl, hinv, hm1⟩
  have HV := Lib.hid hinv
  clear hinv HI
  go_wp2
  obtain ⟨z, HZZ⟩ : ∃ z, Hid (z = (119 - L.length % 64) % 64) := ⟨_, Lib.hid rfl⟩
  go_loopg [] z (fun k wr => k ≤ z ∧ Hid (Inv b wr (L ++ 128 :: List.replicate (z - k) 0) L.length) ∧ Mod b w0 wr)
  case atStart =>
    refine ⟨Nat.le_refl _, ?_, hm1⟩
    rw [Nat.sub_self]
    exact HV
  case round =>
    clear HV hm1
    obtain ⟨hkz, HI, hm⟩ := hrel
    have hu := HI.out.used
    have hul : ((L ++ 128 :: List.replicate (z - gk) 0).length % 64 : Nat) = (L.length + 1 + (z - gk)) % 64 := by
      rw [List.length_append, List.length_cons, List.length_replicate]
      congr 1
      omega
    rw [hul] at hu
    clear hul
    have hz := HZZ.out
    by_cases hk0 : 0 < gk
    · have hne : ¬ ((((L.length + 1 + (z - gk)) % 64 : Nat) : Int) = 56) := by omega
      have hne' : ¬ ((L.length + 1 + (z - gk)) % 64 = 56) := by omega
      obtain ⟨q, HQ⟩ : ∃ q, Hid (q = (L.length + 1 + (z - gk)) % 64) := ⟨_, Lib.hid rfl⟩
      rw [← HQ.out] at hu hne hne'
      clear hz
      go_wp2_with fail
      clear hu hne hne'
      refine (put_any b _ _ L.length 0 (by omega) HI.out).mono ?_
      rintro e w2 ⟨rfl, hinv, hm2⟩
      have HV : Hid (Inv b w2 (L ++ 128 :: List.replicate (z - (gk - 1)) 0) L.length) := by
        refine Lib.hid ?_
        rw [show z - (gk - 1) = (z - gk) + 1 by omega, List.replicate_succ']
        simpa using hinv
      clear hinv
      go_wp2
      go_roundg (gk - 1)
      case measure => omega
      case rel => exact ⟨by omega, HV, hm.trans hm2⟩
    · obtain rfl : gk = 0 := by omega
      have he : ((((L.length + 1 + (z - 0)) % 64 : Nat) : Int) = 56) := by omega
      rw [he] at hu
      clear hz he
      obtain ⟨L1, HL1⟩ : ∃ L1, Hid (L1 = L ++ 128 :: List.replicate (z - 0) 0) := ⟨_, Lib.hid rfl⟩
      rw [← HL1.out] at HI
      go_wp2
      go_loopw [21] (fun i wr => ∃ k : Nat, i = .int .i64 k ∧ k ≤ 8 ∧ Hid (Inv b wr (L1 ++ (countB N).take k) L.length) ∧ Mod b w0 wr) (fun i _ => 8 - (intOf i).toNat)
      case atStart =>
        refine ⟨0, rfl, by omega, ?_, hm⟩
        rw [List.take_zero, List.append_nil]
        exact HI
      case round =>
        clear HI hm hu
        obtain ⟨k, rfl, hk, HI, hm⟩ := hrel
        by_cases hkl : k < 8
        · have k0 : (0 : Int) ≤ (k : Int) := by omega
          have k1 : 8 * (k : Int) ≤ 56 := by omega
          have k2 : (0 : Int) ≤ 56 - 8 * (k : Int) := by omega
          have k3 : (56 - 8 * (k : Int)).toNat = 56 - 8 * k := by omega
          have k4 : (56 - 8 * (k : Int)) < 64 := by omega
          go_wp2_with fail
          have hc : ((N : Int) / 2 ^ (56 - 8 * k) % 256) = (((countB N).getD k 0 : Nat) : Int) := by
            rw [countB_getD N k hkl]
            exact div_pow_cast _ _
          rw [hc]
          have hlt : (countB N).getD k 0 < 256 := by rw [countB_getD N k hkl]; exact Nat.mod_lt _ (by omega)
          clear k0 k1 k2 k3 k4 hc
          refine (put_any b _ _ L.length _ hlt HI.out).mono ?_
          rintro e w2 ⟨rfl, hinv, hm2⟩
          have HV : Hid (Inv b w2 (L1 ++ (countB N).take (k + 1)) L.length) := by
            refine Lib.hid ?_
            have hkk : k < (countB N).length := by rw [countB_length]; exact hkl
            rw [List.take_succ_eq_append_getElem hkk, ← List.append_assoc]
            have : (countB N)[k] = (countB N).getD k 0 := by simp [List.getD, List.getElem?_eq_getElem hkk]
            rw [this]
            exact hinv
          clear hinv hlt
          go_wp2
          go_roundw
          case rel => exact ⟨k + 1, by go_num, by omega, HV, hm.trans hm2⟩
          case measure => simp [intOf]; omega
        · obtain rfl : k = 8 := by omega
          have HF : Hid (Inv b wr (padded L) L.length) := by
            refine Lib.hid ?_
            have h1 : padded L = L1 ++ (countB N).take 8 := by
              unfold padded
              rw [HL1.out, HN.out, List.take_of_length_le (by rw [countB_length]; exact Nat.le_refl _), Nat.mod_eq_of_lt (show 8 * L.length < 18446744073709551616 by omega), Nat.sub_zero, HZZ.out]
              simp
            rw [h1]
            exact HI.out
          clear HI
          obtain ⟨bl, hS, -, -, -, -⟩ := HF.out
          have HSS := Lib.hid hS
          have hbw : b < wr.heap.size := hS.lt
          clear hS HF
          obtain ⟨Z2, hZ2, HZ2⟩ : ∃ Z : Array Value, (#[Value.int IntKind.u8 0, Value.int IntKind.u8 0, Value.int IntKind.u8 0, Value.int IntKind.u8 0, Value.int IntKind.u8 0, Value.int IntKind.u8 0, Value.int IntKind.u8 0, Value.int IntKind.u8 0, Value.int IntKind.u8 0, Value.int IntKind.u8 0, Value.int IntKind.u8 0, Value.int IntKind.u8 0, Value.int IntKind.u8 0, Value.int IntKind.u8 0, Value.int IntKind.u8 0, Value.int IntKind.u8 0, Value.int IntKind.u8 0, Value.int IntKind.u8 0, Value.int IntKind.u8 0, Value.int IntKind.u8 0, Value.int IntKind.u8 0, Value.int IntKind.u8 0, Value.int IntKind.u8 0, Value.int IntKind.u8 0, Value.int IntKind.u8 0, Value.int IntKind.u8 0, Value.int IntKind.u8 0, Value.int IntKind.u8 0, Value.int IntKind.u8 0, Value.int IntKind.u8 0, Value.int IntKind.u8 0, Value.int IntKind.u8 0] : Array Value) = Z ∧ Hid (Z = ((List.replicate 32 0).map U8).toArray) := ⟨_, rfl, Lib.hid rfl⟩
          have hnb : w0.heap.size ≤ wr.heap.size := hm.size
          go_wp2
          obtain ⟨nb, HNB⟩ : ∃ nb, Hid (nb = wr.heap.size) := ⟨_, Lib.hid rfl⟩
          rw [← HNB.out]
          have hbn : b ≠ nb := by rw [HNB.out]; omega
          have hnb2 : w0.heap.size ≤ nb := by rw [HNB.out]; exact hnb
          obtain ⟨D, HD⟩ : ∃ D, Hid (D = digestOf (hsOf (padded L))) := ⟨_, Lib.hid rfl⟩
          have hDl : D.length = 32 := by rw [HD.out]; exact digestOf_length _
          have HDL := Lib.hid hDl
          clear hDl hZ2
          have HD0 : Hid (DAt nb (wr.alloc (.cells Z2 24)) (dk D 0)) := by
            refine Lib.hid ⟨?_, by rw [dk_length _ _ (Nat.zero_le _), HDL.out]⟩
            rw [HNB.out, heap_alloc_new, HZ2.out, dk, HDL.out]
            rfl
          have HS0 := Lib.hid (HSS.out.alloc (.cells Z2 24))
          obtain ⟨hs, HHS⟩ : ∃ hs, Hid (hs = hsOf (padded L)) := ⟨_, Lib.hid rfl⟩
          obtain ⟨uu, HUU⟩ : ∃ uu, Hid (uu = (padded L).length % 64) := ⟨_, Lib.hid rfl⟩
          rw [← HHS.out, ← HUU.out] at HS0
          rw [← HHS.out] at HD
          go_loopw [33] (fun i wr => ∃ k : Nat, i = .int .i64 k ∧ k ≤ 32 ∧ Hid (DAt nb wr (dk D k)) ∧ Hid (SAt b wr hs bl uu L.length) ∧ Mod b w0 wr) (fun i _ => 32 - (intOf i).toNat)
          case atStart => exact ⟨0, rfl, by omega, HD0, HS0, hm.alloc _⟩
          case round =>
            clear HD0 HS0 hm HSS
            obtain ⟨k, rfl, hk, HDk, HSk, hm⟩ := hrel
            by_cases hkl : k < 32
            · have q := HSk.out.sum (k / 4) (by omega)
              have c := HDk.out.cell k hkl
              have f := HDk.out.frozen k
              obtain ⟨x, HX⟩ : ∃ x, Hid (x = hs.getD (k / 4) 0) := ⟨_, Lib.hid rfl⟩
              obtain ⟨y, HY⟩ : ∃ y, Hid (y = (dk D k).getD k 0) := ⟨_, Lib.hid rfl⟩
              rw [← HX.out] at q
              rw [← HY.out] at c
              have k0 : (0 : Int) ≤ (k : Int) := by omega
              have k1 : (k : Int) < 32 := by omega
              go_wp2
              have hc : ((x : Int) / 2 ^ (24 - 8 * (k % 4)) % 256) = ((D.getD k 0 : Nat) : Int) := by
                rw [HD.out, digestOf_getD _ k hkl, ← HX.out]
                exact div_pow_cast _ _
              rw [hc]
              refine ⟨⟨k + 1, by go_num, by omega, Lib.hid ?_, Lib.hid (HSk.out.far hbn _), hm.setCell (.inr hnb2) _⟩, by simp [intOf]; omega⟩
              rw [← dk_set D k (by rw [HDL.out]; exact hkl)]
              exact HDk.out.set_ k _
            · obtain rfl : k = 32 := by omega
              have HDD : Hid (DAt nb wr (shaOf L)) := by
                refine Lib.hid ?_
                have h1 : shaOf L = dk D 32 := by
                  rw [dk, HDL.out, List.take_of_length_le (by rw [HDL.out]; exact Nat.le_refl _), HD.out, HHS.out]
                  simp
                  rfl
                rw [h1]
                exact HDk.out
              have hmw : Mod b w w0 := by rw [HW0.out]; exact (Mod.refl b w).alloc _
              have hrb : DAt rb wr (List.replicate 32 0) := by
                refine ⟨?_, by simp⟩
                rw [hm.block rb (by rw [HW0.out, World.size_alloc, HRB.out]; omega) (by rw [HRB.out]; omega), HW0.out, HRB.out, heap_alloc_new, HZ.out]
              obtain ⟨cs, HCS⟩ : ∃ cs, Hid (cs = (shaOf L).map U8) := ⟨_, Lib.hid rfl⟩
              have hcl : cs.length = 32 := by rw [HCS.out, List.length_map]; exact HDD.out.2
              have hrange : wr.rangeAt nb 0 cs := by rw [HCS.out]; exact HDD.out.range
              have hthere : wr.there rb 0 cs.toArray.size := by rw [List.size_toArray, hcl]; exact hrb.there
              have hall : cs.toArray.all (·.oneCell') = true := by rw [HCS.out]; exact all_oneCell_toArray (U8_one _)
              have HI : Hid ((Tryd.prog.info? 24).map (·.size) = some cs.length) := by rw [hcl]; exact info24
              have HI2 : Hid ((Tryd.prog.info? 24).map (·.size) = some cs.toArray.size) := by rw [List.size_toArray, hcl]; exact info24
              have hrd : (loadVar 24 ⟨rb, 0, none⟩).run Tryd.prog (wr.setCells rb 0 cs) = .ok (.agg cs.toArray) (wr.setCells rb 0 cs) :=
                run_loadVar_mid _ _ _ _ _ _ (World.rangeAt_setCells_same _ _ _ _ (by have := hthere; simpa using this)) Tryd.underlying24 rfl HI.out
              have HRD := Lib.hid hrd
              have HB : Hid (Mod b w (wr.setCells rb 0 cs)) := Lib.hid (mod_setCells (by rw [HRB.out]; exact Nat.le_refl _) _ _ _ (hmw.trans hm))
              clear hrd hcl HDk hrb HSk
              go_wp2_with (first
                | (with_reducible refine wpList_load_mid rfl 24 (.tmp 5) rfl nb 0 rfl cs _ hrange Tryd.underlying24 rfl HI.out ?_)
                | (with_reducible refine wpList_store_mid rfl 24 (.tmp 2) (.tmp 52) rfl rb 0 cs.toArray rfl rfl hthere HI2.out hall ?_))
              exact bodyPost_ret (v := .agg cs.toArray) (results_cell1 Tryd.results15 rfl HRD.out) rfl ⟨by rw [HCS.out], HB.out⟩

end Go.Proofs.YtbpdeehpeflbeaaDoor
