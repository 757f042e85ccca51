/-
  Has a list of statements few of them?
-/
import Derived.Test.YtojkagfbdpjckaaDoorStm
namespace Go.Proofs.YtojkagfbdpjckaaDoor
open Go.RowKit

/-- Some answer; if it is yes, there are few. -/
def FewPost (len : Nat) (w : World) (e : Ending) (w' : World) : Prop := ∃ r, e = .returned (.bool r) ∧ (r = true → len ≤ 10) ∧ Below w.heap.size w w'
theorem FewPost.no {len : Nat} {w : World} {e : Ending} {w' : World} (he : e = .returned (.bool false)) (hb : Below w.heap.size w w') : FewPost len w e w' := ⟨false, he, by simp, hb⟩
theorem FewPost.yes {len : Nat} {w : World} {e : Ending} {w' : World} (he : e = .returned (.bool true)) (hl : len ≤ 10) (hb : Below w.heap.size w w') : FewPost len w e w' := ⟨true, he, fun _ => hl, hb⟩
def FewSOK (W : World) (len : Nat) (v : Value) : Prop := ∀ (n : Nat) (w : World), n ≤ 6 → Below W.heap.size W w → Calls Tryd.prog 34 #[v, .int .i64 n] w (FewPost len w)

set_option maxHeartbeats 4000000 in
set_option maxRecDepth 100000 in
theorem fewS_q (W : World) (R : St → List Value → Prop) (hR : ∀ s cs, R s cs → ∃ does ln co name tn ta e a1 n1 c1 a2 n2 c2 a3 n3 c3, cs = stC does ln co name tn ta (.slice a1 n1 c1) (.slice a2 n2 c2) (.slice a3 n3 c3) ∧ Kids W (fun t kk => Ex W t kk) e (.slice a1 n1 c1) ∧ (∃ l, FewSOK W l (.slice a2 n2 c2)) ∧ (∃ l, FewSOK W l (.slice a3 n3 c3)))
    (xs : List St) (v : Value) (hk : Sl W 9 R xs v) : FewSOK W xs.length v := by
  intro n w hn hw
  obtain ⟨ka, kc, rfl⟩ := hk.form
  obtain ⟨_, hl, hc, hkk⟩ := hk.at
  unfold maxLen at hc
  have hB := hw.size
  have HK := Lib.hid hkk
  clear hkk hk
  generalize hlen : xs.length = kn at *
  by_cases h1 : 5 < n
  · go_enter Tryd.func34, Tryd.ntmps34
    go_wp2
    go_ret
    exact FewPost.no rfl (Below.refl _ _)
  by_cases h2 : 10 < kn
  · go_enter Tryd.func34, Tryd.ntmps34
    go_wp2
    go_ret
    exact FewPost.no rfl (Below.refl _ _)
  have HLen := Lib.hid hlen
  clear hlen hn
  go_enter Tryd.func34, Tryd.ntmps34
  go_wp2
  go_loopw [18] (fun i wr => ∃ k : Nat, k ≤ kn ∧ i = .int .i64 k ∧ Below w.heap.size w wr) (fun i _ => kn - (intOf i).toNat)
  case atStart => exact ⟨0, Nat.zero_le _, rfl, Below.refl _ _⟩
  case round =>
    obtain ⟨k, hk1, rfl, hbr⟩ := hrel
    have hwr : Below W.heap.size W wr := hw.trans (hbr.mono hB)
    have hsr := hbr.size
    by_cases hlt : k < kn
    · have hxk : k < xs.length := by rw [HLen.out]; exact hlt
      obtain ⟨g, o, cs, rfl, hcell, hst⟩ := HK.out k xs[k] (List.getElem?_eq_getElem hxk)
      obtain ⟨does, ln, co, name, tn, ta, e, a1, n1, c1, a2, n2, c2, a3, n3, c3, rfl, s1, ⟨l2, s2⟩, ⟨l3, s3⟩⟩ := hR _ _ hst
      have HT := Lib.hid s2
      have HE := Lib.hid s3
      have HX := Lib.hid s1
      have c0 : wr.cell? ⟨g, o + k * 9, none⟩ = some (.int .i64 does) := (hwr.cell (World.block_lt_of_cell? _ _ (hcell 0 _ rfl))).trans (hcell 0 _ rfl)
      have hgl : g < wr.heap.size := World.block_lt_of_cell? _ _ c0
      have k1 := (hwr.cell (World.block_lt_of_cell? _ _ (hcell 1 _ rfl))).trans (hcell 1 _ rfl)
      have k2 := (hwr.cell (World.block_lt_of_cell? _ _ (hcell 2 _ rfl))).trans (hcell 2 _ rfl)
      have k3 := (hwr.cell (World.block_lt_of_cell? _ _ (hcell 3 _ rfl))).trans (hcell 3 _ rfl)
      have k4 := (hwr.cell (World.block_lt_of_cell? _ _ (hcell 4 _ rfl))).trans (hcell 4 _ rfl)
      have k5 := (hwr.cell (World.block_lt_of_cell? _ _ (hcell 5 _ rfl))).trans (hcell 5 _ rfl)
      have k6 := (hwr.cell (World.block_lt_of_cell? _ _ (hcell 6 _ rfl))).trans (hcell 6 _ rfl)
      have k7 := (hwr.cell (World.block_lt_of_cell? _ _ (hcell 7 _ rfl))).trans (hcell 7 _ rfl)
      have k8 := (hwr.cell (World.block_lt_of_cell? _ _ (hcell 8 _ rfl))).trans (hcell 8 _ rfl)
      clear hcell hst s1 s2 s3
      by_cases t1 : 3 < n1
      · go_wp2
        go_ret
        exact FewPost.no rfl (hbr.trans ((below1 wr _).mono hsr))
      by_cases t2 : 40 < name.size
      · go_wp2
        go_ret
        exact FewPost.no rfl (hbr.trans ((below1 wr _).mono hsr))
      by_cases t3 : 40 < tn.size
      · go_wp2
        go_ret
        exact FewPost.no rfl (hbr.trans ((below1 wr _).mono hsr))
      go_wp2_with fail
      refine (HT.out (n + 1) _ (by omega) (hwr.trans ((below1 wr _).mono (by omega)))).mono ?_
      rintro e1 w1 ⟨r1, rfl, _, hb1⟩
      have hr1 := (hb1.block wr.heap.size (by simp)).trans (heap_al1 wr _)
      have hB1 : Below wr.heap.size wr w1 := (below1 wr _).trans (hb1.mono (by simp))
      have hs1 : wr.heap.size + 1 ≤ w1.heap.size := by have := hb1.size; simpa using this
      clear hb1
      have m8 := cell_row hr1 8 rfl
      have m6 := cell_row hr1 6 rfl
      cases r1 with
      | false =>
        go_wp2
        go_ret
        exact FewPost.no rfl (hbr.trans (hB1.mono hsr))
      | true =>
        go_wp2_with fail
        refine (HE.out (n + 1) w1 (by omega) (hwr.trans (hB1.mono (by omega)))).mono ?_
        rintro e2 w2 ⟨r2, rfl, _, hb2⟩
        have hr2 := (hb2.block wr.heap.size (by omega)).trans hr1
        have hB2 : Below wr.heap.size wr w2 := hB1.trans (hb2.mono (by omega))
        have hs2 : wr.heap.size + 1 ≤ w2.heap.size := by have := hb2.size; omega
        clear hb2 m8 m6
        have p6 := cell_row hr2 6 rfl
        cases r2 with
        | false =>
          go_wp2
          go_ret
          exact FewPost.no rfl (hbr.trans (hB2.mono hsr))
        | true =>
          go_wp2
          obtain ⟨wq, hwq⟩ : ∃ wq, wq = wr := ⟨_, rfl⟩
          subst hwq
          go_loopw [58] (fun i wr => ∃ j : Nat, j ≤ n1 ∧ i = .int .i64 j ∧ Below wq.heap.size wq wr) (fun i _ => n1 - (intOf i).toNat)
          case atStart => exact ⟨0, Nat.zero_le _, rfl, hB2⟩
          case round =>
            obtain ⟨j, hj1, rfl, hbj⟩ := hrel
            have hwj : Below W.heap.size W wr := hwr.trans (hbj.mono (by omega))
            have hsj := hbj.size
            obtain ⟨hn1, hl1, hc1, hk1'⟩ := HX.out.at
            unfold maxLen at hc1
            by_cases hltj : j < n1
            · obtain ⟨g2, o2, kk2, rfl, hcell2, ⟨ka2, kn2, kc2, rfl⟩, _, hq⟩ := hk1' j e[j] (List.getElem?_eq_getElem (by omega))
              have hcl := Cells11.below (o := o2 + j * 11) hcell2 hwj
              have HF := Lib.hid (fun x hx => few9 _ _ x (hq.below hx))
              clear hcell2 hq hk1' hl1
              generalize e[j] = t at *
              obtain ⟨kind, ln', co', num, name', tn', ta', kids', fn, fa, ow⟩ := t
              have q0 : wr.cell? ⟨g2, o2 + j * 11, none⟩ = some (.int .i64 kind) := hcl 0 _ rfl
              have hgl2 : g2 < wr.heap.size := World.block_lt_of_cell? _ _ q0
              have q1 := hcl 1 _ rfl
              have q2 := hcl 2 _ rfl
              have q3 := hcl 3 _ rfl
              have q4 := hcl 4 _ rfl
              have q5 := hcl 5 _ rfl
              have q6 := hcl 6 _ rfl
              have q7 := hcl 7 _ rfl
              have q8 := hcl 8 _ rfl
              have q9 := hcl 9 _ rfl
              have q10 := hcl 10 _ rfl
              have HN1 := Lib.hid hn1
              clear hcl hn1
              go_wp2_with fail
              refine (HF.out _ (hwj.trans ((below1 wr _).mono (by omega)))).mono ?_
              rintro e3 w3 ⟨rfl, hb3⟩
              have hB3 : Below wr.heap.size wr w3 := (below1 wr _).trans (hb3.mono (by simp))
              clear hb3
              generalize few (.mk kind ln' co' num name' tn' ta' kids' fn fa ow) 0 = r3
              cases r3 with
              | false =>
                go_wp2
                go_ret
                exact FewPost.no rfl (hbr.trans ((hbj.trans (hB3.mono hsj)).mono hsr))
              | true =>
                go_wp2
                go_roundw
                case rel => exact ⟨j + 1, by omega, by go_num, hbj.trans (hB3.mono hsj)⟩
                case measure => simp [intOf]; omega
            · clear hk1' hn1
              go_wp2
              go_roundw
              case rel => exact ⟨k + 1, by omega, by go_num, hbr.trans (hbj.mono hsr)⟩
              case measure => simp [intOf]; omega
    · go_wp2
      go_ret
      exact FewPost.yes rfl (by omega) hbr

theorem fewS_any (W : World) : ∀ (d : Nat) (xs : List St) (v : Value), Sl W 9 (StR W d) xs v → FewSOK W xs.length v
  | 0, xs, v, hk => fewS_q W _ (fun _ _ h => h.elim) xs v hk
  | d + 1, xs, v, hk => fewS_q W _ (fun s cs h => by
      obtain ⟨d', does, ln, co, name, tn, ta, e, th, el, a1, n1, c1, a2, n2, c2, a3, n3, c3, _, hd, hcs, s1, s2, s3⟩ := h.open
      cases hd
      exact ⟨does, ln, co, name, tn, ta, e, a1, n1, c1, a2, n2, c2, a3, n3, c3, hcs, s1.kids, ⟨_, fewS_any W d _ _ s2⟩, ⟨_, fewS_any W d _ _ s3⟩⟩) xs v hk
end Go.Proofs.YtojkagfbdpjckaaDoor
