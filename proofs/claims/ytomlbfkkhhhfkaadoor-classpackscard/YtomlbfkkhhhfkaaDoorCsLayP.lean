/-
  A pool as bytes.
-/
import Derived.Test.YtomlbfkkhhhfkaaDoorCsLayF
namespace Go.Proofs.YtomlbfkkhhhfkaaDoor.Fc
open Go.RowKit
set_option linter.unusedVariables false

theorem al_size (w : World) (o : Obj) : (w.alloc o).heap.size = w.heap.size + 1 := by simp
theorem vals_nums {base bw : Nat} {W z : World} {xs : List Int} {a : Option Addr} {n c : Nat} (h : Sl W 1 NmR xs (.slice a n c)) (hb : Below W.heap.size W z) (h1 : W.heap.size ≤ bw) (h2 : bw < base) : Pk.Vals base bw z a (Pk.ints xs) := by
  obtain ⟨e1, l1, k1, hk⟩ := h.at
  rcases xs with _ | ⟨x, xs⟩
  · exact .inl rfl
  obtain ⟨b, o, cs, rfl, hc, rfl⟩ := hk 0 x rfl
  have hbl := World.block_lt_of_cell? _ _ (hc 0 _ rfl)
  refine .inr ⟨_, rfl, .inl (by show b < base; have : b < W.heap.size := hbl; omega), by show b ≠ bw; have : b < W.heap.size := hbl; omega, fun i hi => ?_⟩
  have hi' : i < (x :: xs).length := by simpa [Pk.ints] using hi
  obtain ⟨b', o', cs', e, hc', rfl⟩ := hk i _ (List.getElem?_eq_getElem hi')
  cases e
  rw [add_pl]
  have := hc' 0 _ rfl
  simp only [Nat.mul_one, Nat.add_zero] at this
  rw [(hb.cell (World.block_lt_of_cell? _ _ this)).trans this]
  simp only [Pk.ints, List.getElem_map]
theorem vals_strs {base bw : Nat} {W z : World} {xs : List ByteArray} {a : Option Addr} {n c : Nat} (h : Sl W 1 StrR xs (.slice a n c)) (hb : Below W.heap.size W z) (h1 : W.heap.size ≤ bw) (h2 : bw < base) : Pk.Vals base bw z a (Pk.strs (xs.map bl)) := by
  obtain ⟨e1, l1, k1, hk⟩ := h.at
  rcases xs with _ | ⟨x, xs⟩
  · exact .inl rfl
  obtain ⟨b, o, cs, rfl, hc, rfl⟩ := hk 0 x rfl
  have hbl := World.block_lt_of_cell? _ _ (hc 0 _ rfl)
  refine .inr ⟨_, rfl, .inl (by show b < base; have : b < W.heap.size := hbl; omega), by show b ≠ bw; have : b < W.heap.size := hbl; omega, fun i hi => ?_⟩
  have hi' : i < (x :: xs).length := by simpa [Pk.strs] using hi
  obtain ⟨b', o', cs', e, hc', rfl⟩ := hk i _ (List.getElem?_eq_getElem hi')
  cases e
  rw [add_pl]
  have := hc' 0 _ rfl
  simp only [Nat.mul_one, Nat.add_zero] at this
  rw [(hb.cell (World.block_lt_of_cell? _ _ this)).trans this]
  simp only [Pk.strs, List.getElem_map, bl_mk]
theorem textAll_flat (cl : List ByteArray) : Pk.textAll (cl.map bl) = cl.flatMap sB := by
  unfold Pk.textAll sB
  rw [List.flatMap_map]
theorem row_below {base n size : Nat} {e : TypeId} {v : Value} {x y : World} {xs : List Value} (h : x.ownsRow base e size v n xs) (hb : Below x.heap.size x y) : y.ownsRow base e size v n xs := by
  refine ⟨h.1, ?_⟩
  rcases h.2 with h0 | ⟨g, cap, cur, rfl, hb', hg, r⟩
  · exact .inl h0
  · exact .inr ⟨g, cap, cur, rfl, hb', (hb.block g (lt_of_block hg)).trans hg, r⟩
theorem nums38 (base bw : Nat) (W : World) (zs : List Int) (hz : ∀ z ∈ zs, OkI z) (a : Option Addr) (n c : Nat) (h : Sl W 1 NmR zs (.slice a n c)) (bs : List UInt8) (w : World) (hB : Below W.heap.size W w) (hWb : W.heap.size ≤ bw) (hw : Pk.WAt base bw w bs) (hlt : bw < base) (hb : base ≤ w.heap.size) (hlen : bs.length + 18 * zs.length ≤ 140737488355328) :
    Calls Tryd.prog 38 #[.pointer (some ⟨bw, 0, none⟩), .slice a n c] w fun e w' => e = .returned (.pointer (some ⟨bw, 0, none⟩)) ∧ Pk.WAt base bw w' (bs ++ zs.flatMap Pk.intB) ∧ Pk.Kp base bw w w' := by
  have hv := vals_nums (base := base) h hB hWb hlt
  obtain rfl := h.at.1
  exact Pk.wint_any base bw zs hz a c bs w hw hlt hb hv hlen
theorem texts20 (base bw : Nat) (W : World) (ts : List ByteArray) (a : Option Addr) (n c : Nat) (h : Sl W 1 StrR ts (.slice a n c)) (hn : n ≤ 16384) (bs : List UInt8) (w : World) (hB : Below W.heap.size W w) (hWb : W.heap.size ≤ bw) (hw : Pk.WAt base bw w bs) (hlt : bw < base) (hb : base ≤ w.heap.size) (hlen : bs.length + (ts.flatMap sB).length + 9 ≤ 140737488355328) :
    Calls Tryd.prog 20 #[.pointer (some ⟨bw, 0, none⟩), .slice a n c] w fun e w' => e = .returned (.pointer (some ⟨bw, 0, none⟩)) ∧ Pk.WAt base bw w' (bs ++ ts.flatMap sB) ∧ Pk.Kp base bw w w' := by
  have hv := vals_strs (base := base) h hB hWb hlt
  obtain rfl := h.at.1
  rw [← textAll_flat] at hlen ⊢
  have := Pk.text_any base bw (ts.map bl) a c bs w hw hlt hb hv (by simp; omega) hlen
  rwa [List.length_map] at this
theorem intAll_flat (zs : List Int) : Pk.intAll zs = zs.flatMap Pk.intB := rfl

set_option maxHeartbeats 4000000 in
set_option maxRecDepth 100000 in
theorem pool34 (W : World) (f : Fl) (a1 : Option Addr) (n1 c1 : Nat) (a2 : Option Addr) (n2 c2 : Nat) (a3 : Option Addr) (n3 c3 : Nat) (a4 : Option Addr) (n4 c4 : Nat) (a5 : Option Addr) (n5 c5 : Nat) (hp : PoR W f (.slice a1 n1 c1) (.slice a2 n2 c2) (.slice a3 n3 c3) (.slice a4 n4 c4) (.slice a5 n5 c5))
    (base bw : Nat) (bs : List UInt8) (w : World) (hB : Below W.heap.size W w) (hWb : W.heap.size ≤ bw) (hw : Pk.WAt base bw w bs) (hlt : bw < base) (hb : base ≤ w.heap.size)
    (hnu : ∀ z ∈ f.nu, OkI z) (hn2 : n2 ≤ 16384) (hlen : bs.length + (poB f).length + 18 * f.nu.length + 60 ≤ 140737488355328) :
    Calls Tryd.prog 34 #[.pointer (some ⟨bw, 0, none⟩), .agg #[.slice a1 n1 c1, .slice a2 n2 c2, .slice a3 n3 c3, .slice a4 n4 c4, .slice a5 n5 c5]] w fun e w' => e = .returned (.tuple #[]) ∧ Pk.WAt base bw w' (bs ++ poB f) ∧ Pk.Kp base bw w w' := by
  obtain ⟨e1, l1, k1, hk1⟩ := hp.nu.at
  obtain ⟨e2, l2, k2, hk2⟩ := hp.cl.at
  obtain ⟨e3, l3, k3, hk3⟩ := hp.ty.at
  obtain ⟨e4, l4, k4, hk4⟩ := hp.fd.at
  obtain ⟨e5, l5, k5, hk5⟩ := hp.mt.at
  unfold maxLen at k1 k2 k3 k4 k5
  have HNU := Lib.hid hnu
  have HPR := Lib.hid hp
  have HBW := Lib.hid hB
  have E1 := Lib.hid e1
  have E2 := Lib.hid e2
  have E3 := Lib.hid e3
  have E4 := Lib.hid e4
  have E5 := Lib.hid e5
  have HK3 := Lib.hid hk3
  have HK4 := Lib.hid hk4
  have HK5 := Lib.hid hk5
  have HLN : Hid (bs.length + ((Pk.enc n1).length + (f.nu.flatMap Pk.intB).length + ((Pk.enc n2).length + (f.cl.flatMap sB).length + ((Pk.enc n3).length + (f.ty.flatMap tyB).length + ((Pk.enc n4).length + (f.fd.flatMap fdB).length + ((Pk.enc n5).length + (f.mt.flatMap mtB).length))))) + 18 * f.nu.length + 60 ≤ 140737488355328) := Lib.hid (by rw [e1, e2, e3, e4, e5]; simpa only [poB, manyB, List.length_append, Nat.add_assoc] using hlen)
  have HPO : Hid (bs ++ poB f = bs ++ Pk.enc n1 ++ f.nu.flatMap Pk.intB ++ Pk.enc n2 ++ f.cl.flatMap sB ++ Pk.enc n3 ++ f.ty.flatMap tyB ++ Pk.enc n4 ++ f.fd.flatMap fdB ++ Pk.enc n5 ++ f.mt.flatMap mtB) := Lib.hid (by rw [e1, e2, e3, e4, e5]; simp only [poB, manyB, List.append_assoc])
  clear e1 e2 e3 e4 e5 hk1 hk2 hk3 hk4 hk5 hp hB hlen hnu
  obtain ⟨W0, HW0⟩ : ∃ W0, Hid (W0 = w.alloc (.cells #[.slice a1 n1 c1, .slice a2 n2 c2, .slice a3 n3 c3, .slice a4 n4 c4, .slice a5 n5 c5] 32)) := ⟨_, Lib.hid rfl⟩
  have HA0 : Hid (Pk.WAt base bw W0 bs) := Lib.hid (by rw [HW0.out]; exact wat_al hw _)
  have HB0 : Hid (Blk W0 w.heap.size [.slice a1 n1 c1, .slice a2 n2 c2, .slice a3 n3 c3, .slice a4 n4 c4, .slice a5 n5 c5] 32) := Lib.hid (by rw [HW0.out]; exact Blk.new w [.slice a1 n1 c1, .slice a2 n2 c2, .slice a3 n3 c3, .slice a4 n4 c4, .slice a5 n5 c5] 32)
  have HK0 : Hid (Pk.Kp base bw w W0) := Lib.hid (by rw [HW0.out]; exact kp_al (Pk.Kp.refl base bw w) hb _)
  have hs0 : w.heap.size < W0.heap.size := by rw [HW0.out]; simp
  clear hw
  go_enter Tryd.func34, Tryd.ntmps34
  go_upto_region 1 with fail
  rw [← HW0.out]
  clear HW0
  refine wp_region_held_drew (S := fun z => Blk z w.heap.size [.slice a1 n1 c1, .slice a2 n2 c2, .slice a3 n3 c3, .slice a4 n4 c4, .slice a5 n5 c5] 32) (by kernel_rfl) ?_ (fun hHeld => ?_)
  · exact HB0.out.dr
  refine wpAnyH_take (i := 0) (v := ?_) rfl (by kernel_rfl) (by kernel_rfl) (by kernel_rfl) (fun _ _ _ h => h) (Or.inl ⟨by rfl, ?_⟩) (by assumption) ?_
  rotate_left
  focus (intro w hSw; have p0 := hSw.cell 0; simp only [List.getElem?_cons_zero] at p0; go_simp; first | done | with_reducible rfl)
  simp only [Act.put, List.getElem_toArray, List.getElem_cons_zero, List.setIfInBounds_toArray, List.set_cons_zero, List.set_cons_succ]
  refine wpAnyH_take (i := 1) (v := ?_) rfl (by kernel_rfl) (by kernel_rfl) (by kernel_rfl) (fun _ _ _ h => h) (Or.inl ⟨by rfl, ?_⟩) (by assumption) ?_
  rotate_left
  focus (intro w hSw; have p0 := hSw.cell 0; simp only [List.getElem?_cons_zero] at p0; go_simp; first | done | with_reducible rfl)
  simp only [Act.put, List.getElem_toArray, List.getElem_cons_zero, List.getElem_cons_succ, List.setIfInBounds_toArray, List.set_cons_zero, List.set_cons_succ]
  refine wpAnyH_take (i := 2) (v := ?_) rfl (by kernel_rfl) (by kernel_rfl) (by kernel_rfl) (fun _ _ _ h => h) (Or.inl ⟨by rfl, ?_⟩) (by assumption) ?_
  rotate_left
  focus (intro w hSw; have p0 := hSw.cell 0; simp only [List.getElem?_cons_zero] at p0; go_simp; first | done | with_reducible rfl)
  simp only [Act.put, List.getElem_toArray, List.getElem_cons_zero, List.getElem_cons_succ, List.setIfInBounds_toArray, List.set_cons_zero, List.set_cons_succ]
  refine wpAnyH_take (i := 3) (v := ?_) rfl (by kernel_rfl) (by kernel_rfl) (by kernel_rfl) (fun _ _ _ h => h) (Or.inl ⟨by rfl, ?_⟩) (by assumption) ?_
  rotate_left
  focus (intro w hSw; have p0 := hSw.cell 0; simp only [List.getElem?_cons_zero] at p0; go_simp; first | done | with_reducible rfl)
  simp only [Act.put, List.getElem_toArray, List.getElem_cons_zero, List.getElem_cons_succ, List.setIfInBounds_toArray, List.set_cons_zero, List.set_cons_succ]
  refine wpAnyH_take (i := 6) (v := ?_) rfl (by kernel_rfl) (by kernel_rfl) (by kernel_rfl) (fun _ _ _ h => h) (Or.inl ⟨by rfl, ?_⟩) (by assumption) ?_
  rotate_left
  focus (intro w hSw; have p0 := hSw.cell 0; simp only [List.getElem?_cons_zero] at p0; go_simp; first | done | with_reducible rfl)
  simp only [Act.put, List.getElem_toArray, List.getElem_cons_zero, List.getElem_cons_succ, List.setIfInBounds_toArray, List.set_cons_zero, List.set_cons_succ]
  refine wpAnyH_take (i := 7) (v := ?_) rfl (by kernel_rfl) (by kernel_rfl) (by kernel_rfl) (fun _ _ _ h => h) (Or.inl ⟨by rfl, ?_⟩) (by assumption) ?_
  rotate_left
  focus (intro w hSw; have p0 := hSw.cell 0; simp only [List.getElem?_cons_zero] at p0; go_simp; first | done | with_reducible rfl)
  simp only [Act.put, List.getElem_toArray, List.getElem_cons_zero, List.getElem_cons_succ, List.setIfInBounds_toArray, List.set_cons_zero, List.set_cons_succ]
  refine wpAnyH_ready (rs := [4]) (by kernel_rfl) (by simp) ?_
  refine AllReadyH.cons (o := _) rfl (fun K hK => ?_) AllReadyH.nil
  go_simp
  refine hK.out _ _ (hHeld.al _) (fun hHeld => ?_)
  clear hK K
  try simp only [Act.put, List.getElem_toArray, List.getElem_cons_zero, List.getElem_cons_succ, List.setIfInBounds_toArray, List.set_cons_zero, List.set_cons_succ]
  refine wpAnyH_ready (rs := [5]) (by kernel_rfl) (by simp) ?_
  refine AllReadyH.cons (o := _) rfl (fun K hK => ?_) AllReadyH.nil
  go_simp
  have hA0 : Pk.WAt base bw (W0.alloc (.cells #[.int .i64 n1] 3)).drew bs := wat_al HA0.out _
  have hS0 : base ≤ (W0.alloc (.cells #[.int .i64 n1] 3)).drew.heap.size := by simp; have := hs0; omega
  have hN0 : Blk (W0.alloc (.cells #[.int .i64 n1] 3)).drew W0.heap.size [.int .i64 n1] 3 := Blk.new W0 [.int .i64 n1] 3
  have hE0 : W0.heap.size ≠ bw := by have := hs0; omega
  have hG0 : bs.length + 9 ≤ 140737488355328 := by have := HLN.out; omega
  have hC0 := num1 base bw n1 W0.heap.size 1 bs _ hA0 hlt hS0 hN0 hE0 (by omega) hG0
  with_reducible refine hC0.mono ?_
  rintro e z01 ⟨rfl, hz01, kz01⟩
  have sz01 := kz01.size
  simp at sz01
  have BZ01 := hHeld.kp kz01 (by decide) (by omega)
  have HZ01 := Lib.hid hz01
  have KZ01 : Hid (Pk.Kp base bw w z01) := Lib.hid (Pk.Kp.trans (kp_dr (kp_al HK0.out hb _)) kz01)
  clear hz01 kz01 hA0 hS0 hN0 hE0 hG0 hC0
  go_simp
  refine hK.out _ _ BZ01 (fun hHeld => ?_)
  clear hK K
  try simp only [Act.put, List.getElem_toArray, List.getElem_cons_zero, List.getElem_cons_succ, List.setIfInBounds_toArray, List.set_cons_zero, List.set_cons_succ]
  refine wpAnyH_ready (rs := [8]) (by kernel_rfl) (by simp) ?_
  refine AllReadyH.cons (o := _) rfl (fun K hK => ?_) AllReadyH.nil
  go_simp
  have hC8 := nums38 base bw W f.nu HNU.out a1 n1 c1 HPR.out.nu (bs ++ Pk.enc n1) z01 (HBW.out.trans (kp_below KZ01.out hWb hlt)) hWb HZ01.out hlt (by omega) (by have := HLN.out; simp only [List.length_append]; omega)
  with_reducible refine hC8.mono ?_
  rintro e w2 ⟨rfl, hw2, hk2⟩
  have B2 := hHeld.kp hk2 (by decide) (by omega)
  have K2 := KZ01.out.trans hk2
  have s2 := hk2.size
  go_simp
  refine hK.out _ _ B2 (fun hHeld => ?_)
  clear hK K
  try simp only [Act.put, List.getElem_toArray, List.getElem_cons_zero, List.getElem_cons_succ, List.setIfInBounds_toArray, List.set_cons_zero, List.set_cons_succ]
  refine wpAnyH_done (by kernel_rfl) ?_ _
  clear hHeld HA0 HB0 HK0 KZ01 HZ01 hs0
  have HW2 := Lib.hid hw2
  have HB2 := Lib.hid B2
  have HK2 := Lib.hid K2
  clear hw2 B2 K2 hk2
  obtain ⟨P1, HP1⟩ : ∃ P, Hid (P = bs ++ Pk.enc n1 ++ f.nu.flatMap Pk.intB) := ⟨_, Lib.hid rfl⟩
  rw [← HP1.out] at HW2
  have HL1 : Hid (P1.length + ((Pk.enc n2).length + (f.cl.flatMap sB).length + ((Pk.enc n3).length + (f.ty.flatMap tyB).length + ((Pk.enc n4).length + (f.fd.flatMap fdB).length + ((Pk.enc n5).length + (f.mt.flatMap mtB).length)))) + 60 ≤ 140737488355328) := Lib.hid (by have := HLN.out; rw [HP1.out]; simp only [List.length_append]; omega)
  have HN2 : Hid (n2 ≤ 9223372036854775807) := Lib.hid (by omega)
  clear HLN
  have hs2 := HK2.out.size
  go_upto_region 2 with fail
  refine wp_region_held_drew (S := fun z => Blk z w.heap.size [.slice a1 n1 c1, .slice a2 n2 c2, .slice a3 n3 c3, .slice a4 n4 c4, .slice a5 n5 c5] 32) (by kernel_rfl) ?_ (fun hHeld => ?_)
  · exact HB2.out.dr
  refine wpAnyH_take (i := 0) (v := ?_) rfl (by kernel_rfl) (by kernel_rfl) (by kernel_rfl) (fun _ _ _ h => h) (Or.inl ⟨by rfl, ?_⟩) (by assumption) ?_
  rotate_left
  focus (intro w hSw; have p0 := hSw.cell 1; simp only [List.getElem?_cons_succ, List.getElem?_cons_zero] at p0; go_simp; first | done | with_reducible rfl)
  simp only [Act.put, List.getElem_toArray, List.getElem_cons_zero, List.setIfInBounds_toArray, List.set_cons_zero, List.set_cons_succ]
  refine wpAnyH_take (i := 1) (v := ?_) rfl (by kernel_rfl) (by kernel_rfl) (by kernel_rfl) (fun _ _ _ h => h) (Or.inl ⟨by rfl, ?_⟩) (by assumption) ?_
  rotate_left
  focus (intro w hSw; have p0 := hSw.cell 1; simp only [List.getElem?_cons_succ, List.getElem?_cons_zero] at p0; go_simp; first | done | with_reducible rfl)
  simp only [Act.put, List.getElem_toArray, List.getElem_cons_zero, List.getElem_cons_succ, List.setIfInBounds_toArray, List.set_cons_zero, List.set_cons_succ]
  refine wpAnyH_take (i := 2) (v := ?_) rfl (by kernel_rfl) (by kernel_rfl) (by kernel_rfl) (fun _ _ _ h => h) (Or.inl ⟨by rfl, ?_⟩) (by assumption) ?_
  rotate_left
  focus (intro w hSw; have p0 := hSw.cell 1; simp only [List.getElem?_cons_succ, List.getElem?_cons_zero] at p0; go_simp; first | done | with_reducible rfl)
  simp only [Act.put, List.getElem_toArray, List.getElem_cons_zero, List.getElem_cons_succ, List.setIfInBounds_toArray, List.set_cons_zero, List.set_cons_succ]
  refine wpAnyH_take (i := 3) (v := ?_) rfl (by kernel_rfl) (by kernel_rfl) (by kernel_rfl) (fun _ _ _ h => h) (Or.inl ⟨by rfl, ?_⟩) (by assumption) ?_
  rotate_left
  focus (intro w hSw; have p0 := hSw.cell 1; simp only [List.getElem?_cons_succ, List.getElem?_cons_zero] at p0; go_simp; first | done | with_reducible rfl)
  simp only [Act.put, List.getElem_toArray, List.getElem_cons_zero, List.getElem_cons_succ, List.setIfInBounds_toArray, List.set_cons_zero, List.set_cons_succ]
  refine wpAnyH_take (i := 6) (v := ?_) rfl (by kernel_rfl) (by kernel_rfl) (by kernel_rfl) (fun _ _ _ h => h) (Or.inl ⟨by rfl, ?_⟩) (by assumption) ?_
  rotate_left
  focus (intro w hSw; have p0 := hSw.cell 1; simp only [List.getElem?_cons_succ, List.getElem?_cons_zero] at p0; go_simp; first | done | with_reducible rfl)
  simp only [Act.put, List.getElem_toArray, List.getElem_cons_zero, List.getElem_cons_succ, List.setIfInBounds_toArray, List.set_cons_zero, List.set_cons_succ]
  refine wpAnyH_take (i := 7) (v := ?_) rfl (by kernel_rfl) (by kernel_rfl) (by kernel_rfl) (fun _ _ _ h => h) (Or.inl ⟨by rfl, ?_⟩) (by assumption) ?_
  rotate_left
  focus (intro w hSw; have p0 := hSw.cell 1; simp only [List.getElem?_cons_succ, List.getElem?_cons_zero] at p0; go_simp; first | done | with_reducible rfl)
  simp only [Act.put, List.getElem_toArray, List.getElem_cons_zero, List.getElem_cons_succ, List.setIfInBounds_toArray, List.set_cons_zero, List.set_cons_succ]
  refine wpAnyH_ready (rs := [4]) (by kernel_rfl) (by simp) ?_
  refine AllReadyH.cons (o := _) rfl (fun K hK => ?_) AllReadyH.nil
  go_simp
  refine hK.out _ _ (hHeld.al _) (fun hHeld => ?_)
  clear hK K
  try simp only [Act.put, List.getElem_toArray, List.getElem_cons_zero, List.getElem_cons_succ, List.setIfInBounds_toArray, List.set_cons_zero, List.set_cons_succ]
  refine wpAnyH_ready (rs := [5]) (by kernel_rfl) (by simp) ?_
  refine AllReadyH.cons (o := _) rfl (fun K hK => ?_) AllReadyH.nil
  go_simp
  have hA1 : Pk.WAt base bw (w2.alloc (.cells #[.int .i64 n2] 3)).drew P1 := wat_al HW2.out _
  have hS1 : base ≤ (w2.alloc (.cells #[.int .i64 n2] 3)).drew.heap.size := by simp; have := hs2; omega
  have hN1 : Blk (w2.alloc (.cells #[.int .i64 n2] 3)).drew w2.heap.size [.int .i64 n2] 3 := Blk.new w2 [.int .i64 n2] 3
  have hE1 : w2.heap.size ≠ bw := by have := hs2; omega
  have hG1 : P1.length + 9 ≤ 140737488355328 := by have := HL1.out; omega
  have hC1 := num1 base bw n2 w2.heap.size 1 P1 _ hA1 hlt hS1 hN1 hE1 (by omega) hG1
  with_reducible refine hC1.mono ?_
  rintro e z11 ⟨rfl, hz11, kz11⟩
  have sz11 := kz11.size
  simp at sz11
  have BZ11 := hHeld.kp kz11 (by decide) (by omega)
  have HZ11 := Lib.hid hz11
  have KZ11 : Hid (Pk.Kp base bw w z11) := Lib.hid (Pk.Kp.trans (kp_dr (kp_al HK2.out hb _)) kz11)
  clear hz11 kz11 hA1 hS1 hN1 hE1 hG1 hC1
  go_simp
  refine hK.out _ _ BZ11 (fun hHeld => ?_)
  clear hK K
  try simp only [Act.put, List.getElem_toArray, List.getElem_cons_zero, List.getElem_cons_succ, List.setIfInBounds_toArray, List.set_cons_zero, List.set_cons_succ]
  refine wpAnyH_ready (rs := [8]) (by kernel_rfl) (by simp) ?_
  refine AllReadyH.cons (o := _) rfl (fun K hK => ?_) AllReadyH.nil
  go_simp
  have hC9 := texts20 base bw W f.cl a2 n2 c2 HPR.out.cl hn2 (P1 ++ Pk.enc n2) z11 (HBW.out.trans (kp_below KZ11.out hWb hlt)) hWb HZ11.out hlt (by omega) (by have := HL1.out; simp only [List.length_append]; omega)
  with_reducible refine hC9.mono ?_
  rintro e w3 ⟨rfl, hw3, hk3⟩
  have B3 := hHeld.kp hk3 (by decide) (by omega)
  have K3 := KZ11.out.trans hk3
  have s3 := hk3.size
  go_simp
  refine hK.out _ _ B3 (fun hHeld => ?_)
  clear hK K
  try simp only [Act.put, List.getElem_toArray, List.getElem_cons_zero, List.getElem_cons_succ, List.setIfInBounds_toArray, List.set_cons_zero, List.set_cons_succ]
  refine wpAnyH_done (by kernel_rfl) ?_ _
  clear hHeld HW2 HB2 HK2 KZ11 HZ11 hs2
  have HW3 := Lib.hid hw3
  have HB3 := Lib.hid B3
  have HK3' := Lib.hid K3
  clear hw3 B3 K3 hk3
  obtain ⟨P2, HP2⟩ : ∃ P, Hid (P = P1 ++ Pk.enc n2 ++ f.cl.flatMap sB) := ⟨_, Lib.hid rfl⟩
  rw [← HP2.out] at HW3
  have HL2 : Hid (P2.length + ((Pk.enc n3).length + (f.ty.flatMap tyB).length + ((Pk.enc n4).length + (f.fd.flatMap fdB).length + ((Pk.enc n5).length + (f.mt.flatMap mtB).length))) + 60 ≤ 140737488355328) := Lib.hid (by have := HL1.out; rw [HP2.out]; simp only [List.length_append]; omega)
  clear HL1
  have q2 := HB3.out.cell 2
  simp only [List.getElem?_cons_succ, List.getElem?_cons_zero] at q2
  have hsz3 := HK3'.out.size
  go_wp2_with fail
  refine (num1 base bw n3 _ _ P2 _ (wat_al HW3.out _) hlt (by simp; omega) (Blk.newAt (by simp) [.int .i64 n3] 3) (by omega) (by omega) (by have := HL2.out; omega)).mono ?_
  rintro e v3 ⟨rfl, hv3, kv3⟩
  have HV3 := Lib.hid hv3
  have BV3 := Lib.hid ((HB3.out.al _).kp kv3 (by decide) (by omega))
  have KV3 : Hid (Pk.Kp base bw w v3) := Lib.hid (Pk.Kp.trans (kp_al HK3'.out hb _) kv3)
  clear hv3 kv3 q2 HW3 HB3 HK3' hsz3
  have q2 := BV3.out.cell 2
  simp only [List.getElem?_cons_succ, List.getElem?_cons_zero] at q2
  have hsz3 := KV3.out.size
  go_wp2_with fail
  clear q2
  obtain ⟨P3, HP3⟩ : ∃ Q, Hid (Q = P2 ++ Pk.enc n3) := ⟨_, Lib.hid rfl⟩
  rw [← HP3.out] at HV3
  have HL3 : Hid (P3.length + (f.ty.flatMap tyB).length + ((Pk.enc n4).length + (f.fd.flatMap fdB).length + ((Pk.enc n5).length + (f.mt.flatMap mtB).length)) + 60 ≤ 140737488355328) := Lib.hid (by have := HL2.out; rw [HP3.out]; simp only [List.length_append]; omega)
  clear HL2
  go_loopw [37] (fun i wr => ∃ k : Nat, k ≤ n3 ∧ i = .int .i64 k ∧ Hid (Pk.WAt base bw wr (P3 ++ (f.ty.take k).flatMap tyB)) ∧ Hid (Blk wr w.heap.size [.slice a1 n1 c1, .slice a2 n2 c2, .slice a3 n3 c3, .slice a4 n4 c4, .slice a5 n5 c5] 32) ∧ Pk.Kp base bw w wr) (fun i _ => n3 - (intOf i).toNat)
  case atStart => exact ⟨0, Nat.zero_le _, rfl, Lib.hid (by simpa using HV3.out), BV3, KV3.out⟩
  case round =>
    clear HV3 BV3 KV3 hsz3
    obtain ⟨k, hk, rfl, HWk, HBk, hkp⟩ := hrel
    have hsr := hkp.size
    by_cases hkl : k < n3
    · obtain ⟨x, hx⟩ : ∃ v, f.ty[k]? = some v := ⟨_, List.getElem?_eq_getElem (by have := E3.out; omega)⟩
      obtain ⟨g, o, cs, rfl, hcell, rfl⟩ := HK3.out k x hx
      have hbr : Below W.heap.size W wr := HBW.out.trans (kp_below hkp hWb hlt)
      have p0 : wr.cell? ⟨g, o + k * 2, none⟩ = some (.string x.n) := (hbr.cell (World.block_lt_of_cell? _ _ (hcell 0 _ rfl))).trans (hcell 0 _ rfl)
      have p1 : wr.cell? ⟨g, o + k * 2 + 1, none⟩ = some (.bool x.a) := (hbr.cell (World.block_lt_of_cell? _ _ (hcell 1 _ rfl))).trans (hcell 1 _ rfl)
      have HSN : Hid (P3 ++ (f.ty.take (k + 1)).flatMap tyB = (P3 ++ (f.ty.take k).flatMap tyB) ++ tyB x) := Lib.hid (by rw [flat_snoc tyB hx, List.append_assoc])
      have HLk : Hid ((P3 ++ (f.ty.take k).flatMap tyB).length + (tyB x).length + 60 ≤ 140737488355328) := Lib.hid (by
        have h1 := flat_take_le tyB f.ty (k + 1)
        have h2 := HL3.out
        rw [flat_snoc tyB hx] at h1
        simp only [List.length_append] at h1 h2 ⊢
        omega)
      have HBR := Lib.hid hbr

      clear hcell hx hbr
      generalize (P3 ++ (f.ty.take k).flatMap tyB) = Q1 at *
      go_wp2_with fail
      have hB1 := (HBk.out.al (.cells #[.string x.n, .bool x.a] 60))
      have hC1 := lay66 base bw x.n x.a Q1 (wr.alloc (.cells #[.string x.n, .bool x.a] 60)) (wat_al HWk.out _) hlt (by simp; omega) (by have := HLk.out; have e : (⟨x.n, x.a⟩ : Ty) = x := rfl; rw [e]; omega)
      with_reducible refine hC1.mono ?_
      rintro e w4 ⟨rfl, hw4, hk4⟩
      have HW4 : Hid (Pk.WAt base bw w4 (Q1 ++ tyB x)) := Lib.hid hw4
      have HB4 := Lib.hid (hB1.kp hk4 (by decide) (by omega))
      have HK4' : Hid (Pk.Kp base bw w w4) := Lib.hid (hkp.trans (Pk.Kp.trans (kp_al (Pk.Kp.refl base bw wr) (by omega) _) hk4))
      clear hw4 hk4 hB1 hC1 p0 p1
      go_wp2
      go_roundw
      case rel => exact ⟨k + 1, by omega, by go_num, Lib.hid (by rw [HSN.out]; exact HW4.out), HB4, HK4'.out⟩
      case measure => simp [intOf]; omega
    · have HWf : Hid (Pk.WAt base bw wr (P3 ++ f.ty.flatMap tyB)) := Lib.hid (by have := HWk.out; rwa [List.take_of_length_le (by have := E3.out; omega)] at this)
      have HKf := Lib.hid hkp
      have HBf := HBk
      clear HWk HBk hkp hsr
      obtain ⟨P4, HP4⟩ : ∃ Q, Hid (Q = P3 ++ f.ty.flatMap tyB) := ⟨_, Lib.hid rfl⟩
      rw [← HP4.out] at HWf
      have HL4 : Hid (P4.length + ((Pk.enc n4).length + (f.fd.flatMap fdB).length + ((Pk.enc n5).length + (f.mt.flatMap mtB).length)) + 60 ≤ 140737488355328) := Lib.hid (by have := HL3.out; rw [HP4.out]; simp only [List.length_append]; omega)
      clear HL3
      have q3 := HBf.out.cell 3
      simp only [List.getElem?_cons_succ, List.getElem?_cons_zero] at q3
      have hsz4 := HKf.out.size
      go_wp2_with fail
      refine (num1 base bw n4 _ _ P4 _ (wat_al HWf.out _) hlt (by simp; omega) (Blk.newAt (by simp) [.int .i64 n4] 3) (by omega) (by omega) (by have := HL4.out; omega)).mono ?_
      rintro e v4 ⟨rfl, hv4, kv4⟩
      have HV4 := Lib.hid hv4
      have BV4 := Lib.hid ((HBf.out.al _).kp kv4 (by decide) (by omega))
      have KV4 : Hid (Pk.Kp base bw w v4) := Lib.hid (Pk.Kp.trans (kp_al HKf.out hb _) kv4)
      clear hv4 kv4 q3 HWf HBf HKf hsz4
      have q3 := BV4.out.cell 3
      simp only [List.getElem?_cons_succ, List.getElem?_cons_zero] at q3
      have hsz4 := KV4.out.size
      go_wp2_with fail
      clear q3
      obtain ⟨P5, HP5⟩ : ∃ Q, Hid (Q = P4 ++ Pk.enc n4) := ⟨_, Lib.hid rfl⟩
      rw [← HP5.out] at HV4
      have HL5 : Hid (P5.length + (f.fd.flatMap fdB).length + ((Pk.enc n5).length + (f.mt.flatMap mtB).length) + 60 ≤ 140737488355328) := Lib.hid (by have := HL4.out; rw [HP5.out]; simp only [List.length_append]; omega)
      clear HL4
      go_loopw [54] (fun i wr => ∃ k : Nat, k ≤ n4 ∧ i = .int .i64 k ∧ Hid (Pk.WAt base bw wr (P5 ++ (f.fd.take k).flatMap fdB)) ∧ Hid (Blk wr w.heap.size [.slice a1 n1 c1, .slice a2 n2 c2, .slice a3 n3 c3, .slice a4 n4 c4, .slice a5 n5 c5] 32) ∧ Pk.Kp base bw w wr) (fun i _ => n4 - (intOf i).toNat)
      case atStart => exact ⟨0, Nat.zero_le _, rfl, Lib.hid (by simpa using HV4.out), BV4, KV4.out⟩
      case round =>
        clear HV4 BV4 KV4 hsz4
        obtain ⟨k, hk, rfl, HWk, HBk, hkp⟩ := hrel
        have hsr := hkp.size
        by_cases hkl : k < n4
        · obtain ⟨x, hx⟩ : ∃ v, f.fd[k]? = some v := ⟨_, List.getElem?_eq_getElem (by have := E4.out; omega)⟩
          obtain ⟨g, o, cs, rfl, hcell, rfl⟩ := HK4.out k x hx
          have hbr : Below W.heap.size W wr := HBW.out.trans (kp_below hkp hWb hlt)
          have p0 : wr.cell? ⟨g, o + k * 4, none⟩ = some (.string x.1.name) := (hbr.cell (World.block_lt_of_cell? _ _ (hcell 0 _ rfl))).trans (hcell 0 _ rfl)
          have p1 : wr.cell? ⟨g, o + k * 4 + 1, none⟩ = some (.string x.1.tn) := (hbr.cell (World.block_lt_of_cell? _ _ (hcell 1 _ rfl))).trans (hcell 1 _ rfl)
          have p2 : wr.cell? ⟨g, o + k * 4 + 2, none⟩ = some (.bool x.1.ta) := (hbr.cell (World.block_lt_of_cell? _ _ (hcell 2 _ rfl))).trans (hcell 2 _ rfl)
          have p3 : wr.cell? ⟨g, o + k * 4 + 3, none⟩ = some (.string x.2) := (hbr.cell (World.block_lt_of_cell? _ _ (hcell 3 _ rfl))).trans (hcell 3 _ rfl)
          have HSN : Hid (P5 ++ (f.fd.take (k + 1)).flatMap fdB = (P5 ++ (f.fd.take k).flatMap fdB) ++ fdB x) := Lib.hid (by rw [flat_snoc fdB hx, List.append_assoc])
          have HLk : Hid ((P5 ++ (f.fd.take k).flatMap fdB).length + (fdB x).length + 60 ≤ 140737488355328) := Lib.hid (by
            have h1 := flat_take_le fdB f.fd (k + 1)
            have h2 := HL5.out
            rw [flat_snoc fdB hx] at h1
            simp only [List.length_append] at h1 h2 ⊢
            omega)
          have HBR := Lib.hid hbr

          clear hcell hx hbr
          generalize (P5 ++ (f.fd.take k).flatMap fdB) = Q1 at *
          go_wp2_with fail
          have hX0 := Blk.new wr [.string x.1.name, .string x.1.tn, .bool x.1.ta, .string x.2] 77
          have hC1 := text2 base bw x.2 x.1.name _ 2 Q1 _ (wat_al (wat_al HWk.out (.cells #[.string x.1.name, .string x.1.tn, .bool x.1.ta, .string x.2] 77)) (.cells #[.string x.2, .string x.1.name] 9)) hlt (by simp; omega) (Blk.newAt rfl [.string x.2, .string x.1.name] 9) (by simp; omega) (by have := HLk.out; simp only [fdB, vrB, List.length_append] at this; omega)
          simp only [al_size] at hC1
          with_reducible refine hC1.mono ?_
          rintro e w4 ⟨rfl, hw4, hk4⟩
          have hs4 := hk4.size
          simp at hs4
          have Bx := (hX0.al _).kp hk4 (by decide) (by omega)
          have r1 := Bx.cell 1
          have r2 := Bx.cell 2
          simp only [List.getElem?_cons_succ, List.getElem?_cons_zero] at r1 r2
          have HB4 := Lib.hid (((HBk.out.al _).al _).kp hk4 (by decide) (by omega))
          have HK4' : Hid (Pk.Kp base bw w w4) := Lib.hid (hkp.trans (Pk.Kp.trans (kp_al (kp_al (Pk.Kp.refl base bw wr) (by omega) _) (by omega) _) hk4))
          have HW4 := Lib.hid hw4
          clear hw4 hk4 hC1 hX0 Bx p0 p1 p2 p3
          go_wp2_with fail
          have hC2 := lay66 base bw x.1.tn x.1.ta (Q1 ++ (sB x.2 ++ sB x.1.name)) w4 HW4.out hlt (by omega) (by have := HLk.out; simp only [fdB, vrB, Vr.ty, List.length_append] at this ⊢; omega)
          with_reducible refine hC2.mono ?_
          rintro e w5 ⟨rfl, hw5, hk5⟩
          have HW5 : Hid (Pk.WAt base bw w5 (Q1 ++ fdB x)) := Lib.hid (by have h := hw5; simp only [List.append_assoc] at h; simpa only [fdB, vrB, Vr.ty, List.append_assoc] using h)
          have HB5 := Lib.hid (HB4.out.kp hk5 (by decide) (by omega))
          have HK5' : Hid (Pk.Kp base bw w w5) := Lib.hid (HK4'.out.trans hk5)
          clear hw5 hk5 hC2 r1 r2
          go_wp2
          go_roundw
          case rel => exact ⟨k + 1, by omega, by go_num, Lib.hid (by rw [HSN.out]; exact HW5.out), HB5, HK5'.out⟩
          case measure => simp [intOf]; omega
        · have HWf : Hid (Pk.WAt base bw wr (P5 ++ f.fd.flatMap fdB)) := Lib.hid (by have := HWk.out; rwa [List.take_of_length_le (by have := E4.out; omega)] at this)
          have HKf := Lib.hid hkp
          have HBf := HBk
          clear HWk HBk hkp hsr
          obtain ⟨P6, HP6⟩ : ∃ Q, Hid (Q = P5 ++ f.fd.flatMap fdB) := ⟨_, Lib.hid rfl⟩
          rw [← HP6.out] at HWf
          have HL6 : Hid (P6.length + ((Pk.enc n5).length + (f.mt.flatMap mtB).length) + 60 ≤ 140737488355328) := Lib.hid (by have := HL5.out; rw [HP6.out]; simp only [List.length_append]; omega)
          clear HL5
          have q4 := HBf.out.cell 4
          simp only [List.getElem?_cons_succ, List.getElem?_cons_zero] at q4
          have hsz5 := HKf.out.size
          go_wp2_with fail
          refine (num1 base bw n5 _ _ P6 _ (wat_al HWf.out _) hlt (by simp; omega) (Blk.newAt (by simp) [.int .i64 n5] 3) (by omega) (by omega) (by have := HL6.out; omega)).mono ?_
          rintro e v5 ⟨rfl, hv5, kv5⟩
          have HV5 := Lib.hid hv5
          have BV5 := Lib.hid ((HBf.out.al _).kp kv5 (by decide) (by omega))
          have KV5 : Hid (Pk.Kp base bw w v5) := Lib.hid (Pk.Kp.trans (kp_al HKf.out hb _) kv5)
          clear hv5 kv5 q4 HWf HBf HKf hsz5
          have q4 := BV5.out.cell 4
          simp only [List.getElem?_cons_succ, List.getElem?_cons_zero] at q4
          have hsz5 := KV5.out.size
          go_wp2_with fail
          clear q4
          obtain ⟨P7, HP7⟩ : ∃ Q, Hid (Q = P6 ++ Pk.enc n5) := ⟨_, Lib.hid rfl⟩
          rw [← HP7.out] at HV5
          have HL7 : Hid (P7.length + (f.mt.flatMap mtB).length + 60 ≤ 140737488355328) := Lib.hid (by have := HL6.out; rw [HP7.out]; simp only [List.length_append]; omega)
          clear HL6
          go_loopw [81] (fun i wr => ∃ k : Nat, k ≤ n5 ∧ i = .int .i64 k ∧ Hid (Pk.WAt base bw wr (P7 ++ (f.mt.take k).flatMap mtB)) ∧ Hid (Blk wr w.heap.size [.slice a1 n1 c1, .slice a2 n2 c2, .slice a3 n3 c3, .slice a4 n4 c4, .slice a5 n5 c5] 32) ∧ Pk.Kp base bw w wr) (fun i _ => n5 - (intOf i).toNat)
          case atStart => exact ⟨0, Nat.zero_le _, rfl, Lib.hid (by simpa using HV5.out), BV5, KV5.out⟩
          case round =>
            clear HV5 BV5 KV5 hsz5
            obtain ⟨k, hk, rfl, HWk, HBk, hkp⟩ := hrel
            have hsr := hkp.size
            by_cases hkl : k < n5
            · obtain ⟨x, hx⟩ : ∃ v, f.mt[k]? = some v := ⟨_, List.getElem?_eq_getElem (by have := E5.out; omega)⟩
              obtain ⟨g, o, cs, rfl, hcell, b1, m1, d1, rfl, hsl⟩ := HK5.out k x hx
              have hbr : Below W.heap.size W wr := HBW.out.trans (kp_below hkp hWb hlt)
              have p0 : wr.cell? ⟨g, o + k * 6, none⟩ = some (.string x.1.name) := (hbr.cell (World.block_lt_of_cell? _ _ (hcell 0 _ rfl))).trans (hcell 0 _ rfl)
              have p1 : wr.cell? ⟨g, o + k * 6 + 1, none⟩ = some (.bool x.1.st) := (hbr.cell (World.block_lt_of_cell? _ _ (hcell 1 _ rfl))).trans (hcell 1 _ rfl)
              have p2 : wr.cell? ⟨g, o + k * 6 + 2, none⟩ = some (.slice b1 m1 d1) := (hbr.cell (World.block_lt_of_cell? _ _ (hcell 2 _ rfl))).trans (hcell 2 _ rfl)
              have p3 : wr.cell? ⟨g, o + k * 6 + 3, none⟩ = some (.string x.1.rn) := (hbr.cell (World.block_lt_of_cell? _ _ (hcell 3 _ rfl))).trans (hcell 3 _ rfl)
              have p4 : wr.cell? ⟨g, o + k * 6 + 4, none⟩ = some (.bool x.1.ra) := (hbr.cell (World.block_lt_of_cell? _ _ (hcell 4 _ rfl))).trans (hcell 4 _ rfl)
              have p5 : wr.cell? ⟨g, o + k * 6 + 5, none⟩ = some (.string x.2) := (hbr.cell (World.block_lt_of_cell? _ _ (hcell 5 _ rfl))).trans (hcell 5 _ rfl)
              have HSN : Hid (P7 ++ (f.mt.take (k + 1)).flatMap mtB = (P7 ++ (f.mt.take k).flatMap mtB) ++ mtB x) := Lib.hid (by rw [flat_snoc mtB hx, List.append_assoc])
              have HLk : Hid ((P7 ++ (f.mt.take k).flatMap mtB).length + (mtB x).length + 60 ≤ 140737488355328) := Lib.hid (by
                have h1 := flat_take_le mtB f.mt (k + 1)
                have h2 := HL7.out
                rw [flat_snoc mtB hx] at h1
                simp only [List.length_append] at h1 h2 ⊢
                omega)
              have HBR := Lib.hid hbr
              have HSL := Lib.hid hsl
              clear hcell hx hbr hsl
              generalize (P7 ++ (f.mt.take k).flatMap mtB) = Q1 at *
              have hA := alone59b x b1 m1 d1 (wr.alloc (.cells #[.string x.1.name, .bool x.1.st, .slice b1 m1 d1, .string x.1.rn, .bool x.1.ra, .string x.2] 79))
              go_wp2_with fail
              with_reducible refine hA.mono ?_
              rintro e w4 ⟨rfl, hblk, hb4⟩
              simp only [al_size] at hblk
              have hs4 := hb4.size
              simp only [al_size] at hs4
              have hk4 : Pk.Kp base bw wr w4 := Pk.Kp.trans (kp_al (Pk.Kp.refl base bw wr) (by omega) _) (Pk.Kp.of_below hb4 (by simp; omega))
              have HB4 := Lib.hid (HBk.out.kp hk4 (by decide) (by omega))
              have HK4' : Hid (Pk.Kp base bw w w4) := Lib.hid (hkp.trans hk4)
              have hW4 : Pk.WAt base bw w4 Q1 := by
                obtain ⟨u, hu, hr⟩ := HWk.out
                have hl := lt_of_block hu
                exact ⟨u, ((hb4.block _ (by simp; omega)).trans (Below.heap_alloc _ _ _ hl)).trans hu, row_below (World.ownsRow.alloc hr _) hb4⟩
              have hC2 := lay_alone W x b1 m1 d1 HSL.out base bw (wr.heap.size + 1 + 1 + 1) Q1 w4 (HBW.out.trans (kp_below HK4'.out hWb hlt)) hWb hblk (by omega) hW4 hlt (by omega) (by have := HLk.out; omega)
              clear hA hb4 hblk p0 p1 p2 p3 p4 p5
              go_wp2_with fail
              with_reducible refine hC2.mono ?_
              rintro e w5 ⟨rfl, hw5, hk5⟩
              have HW5 := Lib.hid hw5
              have HB5 := Lib.hid (HB4.out.kp hk5 (by decide) (by omega))
              have HK5' : Hid (Pk.Kp base bw w w5) := Lib.hid (HK4'.out.trans hk5)
              clear hw5 hk5 hC2 hk4
              go_wp2
              go_roundw
              case rel => exact ⟨k + 1, by omega, by go_num, Lib.hid (by rw [HSN.out]; exact HW5.out), HB5, HK5'.out⟩
              case measure => simp [intOf]; omega
            · have HWE : Hid (Pk.WAt base bw wr (bs ++ poB f)) := Lib.hid (by
                have := HWk.out
                rw [List.take_of_length_le (by have := E5.out; omega)] at this
                rw [HPO.out]
                rw [HP7.out, HP6.out, HP5.out, HP4.out, HP3.out, HP2.out, HP1.out] at this
                exact this)
              go_wp2
              go_end0
              exact ⟨rfl, HWE.out, hkp⟩
end Go.Proofs.YtomlbfkkhhhfkaaDoor.Fc
