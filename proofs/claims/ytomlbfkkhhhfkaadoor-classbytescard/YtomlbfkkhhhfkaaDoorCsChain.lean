/-
  A region whose operations come in any order that its edges allow, by one invariant; a chain of calls on a Writer in such a region.
-/
import Derived.Test.YtomlbfkkhhhfkaaDoorCsLay15a
import Derived.Deep.RegionHeld3
namespace Go.Proofs.YtomlbfkkhhhfkaaDoor.Fc
open Go.RowKit
set_option linter.unusedVariables false
set_option linter.unusedSimpArgs false

def upT {α : Type} (T : Nat → α) (i : Nat) (v : α) : Nat → α := fun j => if j = i then v else T j
theorem upT_same {α : Type} (T : Nat → α) (i : Nat) (v : α) : upT T i v i = v := if_pos rfl
theorem upT_other {α : Type} (T : Nat → α) {i j : Nat} (v : α) (h : j ≠ i) : upT T i v j = T j := if_neg h
theorem countP_lt {p q : Nat → Bool} {i : Nat} : ∀ xs : List Nat, (∀ j ∈ xs, q j = true → p j = true) → i ∈ xs → p i = true → q i = false → xs.countP q < xs.countP p := by
  intro xs
  induction xs with
  | nil => intro _ h; cases h
  | cons x xs ih =>
    intro hle hm hp hq
    have hle' : ∀ ys : List Nat, (∀ j ∈ ys, q j = true → p j = true) → ys.countP q ≤ ys.countP p := by
      intro ys
      induction ys with
      | nil => intro _; simp
      | cons y ys ihy =>
        intro h
        have h1 := ihy (fun j hj => h j (by simp [hj]))
        have h2 := h y (by simp)
        simp only [List.countP_cons]
        cases hqy : q y with
        | false => simp; omega
        | true => rw [h2 hqy]; simp; omega
    simp only [List.countP_cons]
    rcases List.mem_cons.1 hm with rfl | hm
    · have h1 := hle' xs (fun j hj => hle j (by simp [hj]))
      rw [hp, hq]; simp; omega
    · have h1 := ih (fun j hj => hle j (by simp [hj])) hm hp hq
      have h2 := hle x (by simp)
      cases hqx : q x with
      | false => simp; omega
      | true => rw [h2 hqx]; simp; omega
section
variable {P : Program} {ops : Array Oper} {Q : Exit → Act → World → Prop}
/-- each operation waits for these, and for none behind itself -/
def preOk (ops : Array Oper) (pre : Nat → List Nat) : Bool := (List.range ops.size).all fun i => ((ops[i]?).map (fun o => ((pre i).all fun j => o.after.any fun e => Region.binds .any e && e.on == j) && (o.after.all fun e => !Region.binds .any e || decide (e.on < i)))).getD false
theorem ready_pre {pre : Nat → List Nat} (hp : preOk ops pre = true) {listed : Array Bool} {i : Nat} (hi : i ∈ Region.ready .any ops listed) : i < ops.size ∧ listed.getD i true = false ∧ ∀ j ∈ pre i, listed.getD j false = true := by
  unfold Region.ready at hi
  rw [List.mem_filter, List.mem_range] at hi
  obtain ⟨hl, hc⟩ := hi
  rw [Bool.and_eq_true] at hc
  obtain ⟨h1, h2⟩ := hc
  unfold preOk at hp
  rw [List.all_eq_true] at hp
  have hpi := hp i (List.mem_range.2 hl)
  rw [Array.getElem?_eq_getElem hl] at h2 hpi
  simp only [Option.map_some, Option.getD_some] at h2 hpi
  rw [Bool.and_eq_true] at hpi
  refine ⟨hl, by simpa using h1, fun j hj => ?_⟩
  have h3 := (List.all_eq_true.1 hpi.1) j hj
  rw [Array.any_eq_true'] at h3
  obtain ⟨e, he, h4⟩ := h3
  rw [Bool.and_eq_true] at h4
  rw [Array.all_eq_true'] at h2
  have h5 := h2 e he
  rw [h4.1] at h5
  have h6 : e.on = j := by simpa using h4.2
  rw [← h6]
  simpa using h5
theorem ready_none {pre : Nat → List Nat} (hp : preOk ops pre = true) {listed : Array Bool} (hs : listed.size = ops.size) (hr : Region.ready .any ops listed = []) : ∀ i, i < ops.size → listed.getD i true = true := by
  intro i
  induction i using Nat.strongRecOn with
  | ind i ih =>
    intro hi
    cases hc : listed.getD i true with
    | true => rfl
    | false =>
      exfalso
      have hm : i ∈ Region.ready .any ops listed := by
        unfold Region.ready
        rw [List.mem_filter, List.mem_range]
        refine ⟨hi, ?_⟩
        rw [hc, Bool.and_eq_true]
        refine ⟨rfl, ?_⟩
        unfold preOk at hp
        rw [List.all_eq_true] at hp
        have hpi := hp i (List.mem_range.2 hi)
        rw [Array.getElem?_eq_getElem hi] at hpi ⊢
        simp only [Option.map_some, Option.getD_some] at hpi ⊢
        rw [Bool.and_eq_true] at hpi
        rw [Array.all_eq_true']
        intro e he
        have h1 := (Array.all_eq_true'.1 hpi.2) e he
        cases hb : Region.binds .any e with
        | false => simp
        | true =>
          rw [hb] at h1
          have h2 : e.on < i := by simpa using h1
          have h3 := ih e.on h2 (by omega)
          have hlt : e.on < listed.size := by omega
          rw [Array.getD_eq_getD_getElem?, Array.getElem?_eq_getElem hlt] at h3 ⊢
          simpa using h3
      rw [hr] at hm
      cases hm
theorem wpAnyH_inv {pre : Nat → List Nat} (hp : preOk ops pre = true) (I : (Nat → Bool) → Act → World → Prop)
    (step : ∀ l a w, I l a w → ∀ i o, i < ops.size → ops[i]? = some o → l i = false → (∀ j ∈ pre i, l j = true) → ∀ K' : Act → World → Prop, (∀ a' w', I (upT l i true) a' w' → K' a' w') → if Region.wanted o (yielded ops a.tmps) = true then Oper.wp P o a w K' Q else K' (a.put o.dst undef) w)
    (fin : ∀ l a w, I l a w → (∀ i, i < ops.size → l i = true) → Q .normal a w) (hpre : ∀ i j, j ∈ pre i → j < ops.size) :
    ∀ (fuel : Nat) (listed : Array Bool) (l : Nat → Bool) (a : Act) (w : World), listed.size = ops.size → (∀ i, i < ops.size → listed[i]? = some (l i)) → (List.range ops.size).countP (fun i => !l i) ≤ fuel → I l a w → wpAnyH P .any ops Q (fun _ => True) fuel listed a w := by
  have hget : ∀ (listed : Array Bool) (l : Nat → Bool) (b : Bool), (∀ i, i < ops.size → listed[i]? = some (l i)) → ∀ i, i < ops.size → listed.getD i b = l i := by
    intro listed l b h i hi
    rw [Array.getD_eq_getD_getElem?, h i hi]
    rfl
  intro fuel
  induction fuel with
  | zero =>
    intro listed l a w hs hl hc hI
    have hall : ∀ i, i < ops.size → l i = true := fun i hi => by
      have h0 : (List.range ops.size).countP (fun i => !l i) = 0 := by omega
      rw [List.countP_eq_zero] at h0
      have := h0 i (List.mem_range.2 hi)
      simpa using this
    refine ⟨?_, fin l a w hI hall⟩
    cases hr : Region.ready .any ops listed with
    | nil => rfl
    | cons i rs =>
      have hm : i ∈ Region.ready .any ops listed := by rw [hr]; simp
      obtain ⟨h1, h2, _⟩ := ready_pre hp hm
      rw [hget listed l true hl i h1, hall i h1] at h2
      cases h2
  | succ fuel ih =>
    intro listed l a w hs hl hc hI
    refine ⟨fun hr => fin l a w hI (fun i hi => by rw [← hget listed l true hl i hi]; exact ready_none hp hs hr i hi), fun i hi => ?_⟩
    obtain ⟨h1, h2, h3⟩ := ready_pre hp hi
    rw [hget listed l true hl i h1] at h2
    refine wpOp_step (o := ops[i]) (Array.getElem?_eq_getElem h1) (fun K' hK => ?_)
    refine step l a w hI i ops[i] h1 (Array.getElem?_eq_getElem h1) h2 (fun j hj => ?_) K' (fun a' w' hI' => hK a' w' ⟨trivial, ih _ (upT l i true) a' w' (by simpa using hs) (fun j hj => ?_) ?_ hI'⟩)
    · rw [← hget listed l false hl j (hpre i j hj)]; exact h3 j hj
    · by_cases hji : j = i
      · subst hji
        rw [upT_same, Array.getElem?_setIfInBounds_self_of_lt (by omega)]
      · rw [upT_other l true hji, Array.getElem?_setIfInBounds_ne (fun e => hji e.symm)]; exact hl j hj
    · have h5 := countP_lt (p := fun j => !l j) (q := fun j => !upT l i true j) (i := i) (List.range ops.size) (fun j _ hq => by
        by_cases hji : j = i
        · subst hji; rw [upT_same] at hq; cases hq
        · rwa [upT_other l true hji] at hq) (List.mem_range.2 h1) (by simp [h2]) (by rw [upT_same]; rfl)
      omega
/-- a region that draws its order, by an invariant -/
theorem wp_region_inv {id : Nat} {a : Act} {w : World} (hm : P.follows .mixedOrders = true) (pre : Nat → List Nat) (hp : preOk ops pre = true) (hpre : ∀ i j, j ∈ pre i → j < ops.size) (I : (Nat → Bool) → Act → World → Prop) (h0 : I (fun _ => false) a w.drew)
    (step : ∀ l a w, I l a w → ∀ i o, i < ops.size → ops[i]? = some o → l i = false → (∀ j ∈ pre i, l j = true) → ∀ K' : Act → World → Prop, (∀ a' w', I (upT l i true) a' w' → K' a' w') → if Region.wanted o (yielded ops a.tmps) = true then Oper.wp P o a w K' Q else K' (a.put o.dst undef) w)
    (fin : ∀ l a w, I l a w → (∀ i, i < ops.size → l i = true) → Q .normal a w) : (Code.region id ops true).wp P Q a w :=
  wp_region_held_drew (S := fun _ => True) hm trivial (fun _ => wpAnyH_inv hp I step fin hpre ops.size _ (fun _ => false) a w.drew (by simp) (fun i hi => by simp [hi]) (by simp) h0)
end
/-! ### the slots that a region fills -/
def setAll (t : Array Value) (T : Nat → Value) : Nat → List Nat → Array Value
  | _, [] => t
  | k, d :: ds => setAll (t.setIfInBounds d (T k)) T (k + 1) ds
theorem setAll_size (T : Nat → Value) (ds : List Nat) : ∀ (t : Array Value) (k : Nat), (setAll t T k ds).size = t.size := by
  induction ds with
  | nil => intro t k; rfl
  | cons d ds ih => intro t k; unfold setAll; rw [ih]; simp
theorem setAll_out (T : Nat → Value) {j : Nat} (ds : List Nat) : ∀ (t : Array Value) (k : Nat), j ∉ ds → (setAll t T k ds)[j]? = t[j]? := by
  induction ds with
  | nil => intro t k _; rfl
  | cons d ds ih =>
    intro t k h
    simp only [List.mem_cons, not_or] at h
    unfold setAll
    rw [ih _ _ h.2, Array.getElem?_setIfInBounds_ne (fun e => h.1 e.symm)]
theorem setAll_in (T : Nat → Value) {d : Nat} (ds : List Nat) : ∀ (t : Array Value) (k m : Nat), ds.Nodup → ds[m]? = some d → d < t.size → (setAll t T k ds)[d]? = some (T (k + m)) := by
  induction ds with
  | nil => intro t k m _ h; simp at h
  | cons x ds ih =>
    intro t k m hn h hd
    rw [List.nodup_cons] at hn
    unfold setAll
    match m, h with
    | 0, h =>
      simp only [List.getElem?_cons_zero, Option.some.injEq] at h
      subst h
      rw [setAll_out T ds _ _ hn.1, Array.getElem?_setIfInBounds_self_of_lt hd]
      rfl
    | m + 1, h =>
      rw [List.getElem?_cons_succ] at h
      rw [ih _ _ m hn.2 h (by simpa using hd)]
      congr 2
      omega
theorem setAll_set (t : Array Value) (T : Nat → Value) {ds : List Nat} (hn : ds.Nodup) {m d : Nat} (hm : ds[m]? = some d) (hd : d < t.size) (v : Value) : (setAll t T 0 ds).setIfInBounds d v = setAll t (upT T m v) 0 ds := by
  apply Array.ext_getElem?
  intro j
  by_cases hj : j = d
  · subst hj
    rw [Array.getElem?_setIfInBounds_self_of_lt (by rw [setAll_size]; exact hd), setAll_in _ ds t 0 m hn hm hd, Nat.zero_add, upT_same]
  · rw [Array.getElem?_setIfInBounds_ne (fun e => hj e.symm)]
    by_cases hin : j ∈ ds
    · obtain ⟨m', hm'⟩ := List.getElem?_of_mem hin
      by_cases hlt : j < t.size
      · rw [setAll_in _ ds t 0 m' hn hm' hlt, setAll_in _ ds t 0 m' hn hm' hlt, upT_other]
        intro e
        rw [Nat.zero_add] at e
        subst e
        rw [hm] at hm'
        exact hj (Option.some.inj hm').symm
      · rw [Array.getElem?_eq_none (by rw [setAll_size]; omega), Array.getElem?_eq_none (by rw [setAll_size]; omega)]
    · rw [setAll_out _ ds t 0 hin, setAll_out _ ds t 0 hin]
theorem setAll_same (t : Array Value) {ds : List Nat} (hn : ds.Nodup) (hd : ∀ d ∈ ds, d < t.size) : setAll t (fun k => t.getD (ds.getD k 0) undef) 0 ds = t := by
  apply Array.ext_getElem?
  intro j
  by_cases hin : j ∈ ds
  · obtain ⟨m, hm⟩ := List.getElem?_of_mem hin
    have hlt := hd j hin
    rw [setAll_in _ ds t 0 m hn hm hlt, Nat.zero_add, Array.getElem?_eq_getElem hlt]
    simp [List.getD, hm, Array.getD, hlt]
  · rw [setAll_out _ ds t 0 hin]
def actA (a : Act) (ds : List Nat) (T : Nat → Value) : Act := { a with tmps := setAll a.tmps T 0 ds }
theorem actA_get (a : Act) (T : Nat → Value) {ds : List Nat} (hn : ds.Nodup) {m d : Nat} (hm : ds[m]? = some d) (hd : d < a.tmps.size) : (actA a ds T).tmps.getD d undef = T m := by
  show (setAll a.tmps T 0 ds).getD d undef = T m
  rw [Array.getD_eq_getD_getElem?, setAll_in T ds a.tmps 0 m hn hm hd, Nat.zero_add]
  rfl
theorem actA_out (a : Act) (T : Nat → Value) {ds : List Nat} {d : Nat} (hd : d ∉ ds) : (actA a ds T).tmps.getD d undef = a.tmps.getD d undef := by
  show (setAll a.tmps T 0 ds).getD d undef = _
  rw [Array.getD_eq_getD_getElem?, setAll_out T ds a.tmps 0 hd, Array.getD_eq_getD_getElem?]
theorem actA_put (a : Act) (T : Nat → Value) {ds : List Nat} (hn : ds.Nodup) {m d : Nat} (hm : ds[m]? = some d) (hd : d < a.tmps.size) (v : Value) : (actA a ds T).put (some d) v = actA a ds (upT T m v) := by
  show ({ (actA a ds T) with tmps := (setAll a.tmps T 0 ds).setIfInBounds d v } : Act) = _
  rw [setAll_set a.tmps T hn hm hd v]
  rfl
theorem actA_same (a : Act) {ds : List Nat} (hn : ds.Nodup) (hd : ∀ d ∈ ds, d < a.tmps.size) : a = actA a ds (fun k => a.tmps.getD (ds.getD k 0) undef) := by
  show a = ({ a with tmps := _ } : Act)
  rw [setAll_same a.tmps hn hd]
/-- a region that draws its order, its slots filled by operations of these numbers: nothing is asked of the act but its slots -/
theorem wp_region_chain {P : Program} {ops : Array Oper} {Q : Exit → Act → World → Prop} {id : Nat} {a : Act} {w : World} (hm : P.follows .mixedOrders = true) (pre : Nat → List Nat) (ds : List Nat) (hp : preOk ops pre = true) (hpre : ∀ i j, j ∈ pre i → j < ops.size)
    (hdst : ops.toList.map (fun o => o.dst) = ds.map some) (hn : ds.Nodup) (hd : ∀ d ∈ ds, d < a.tmps.size) (base : List (Nat × Value)) (hb : ∀ q ∈ base, a.tmps.getD q.1 undef = q.2 ∧ q.1 ∉ ds) (J : (Nat → Bool) → (Nat → Value) → World → Prop) (h0 : ∀ T, J (fun _ => false) T w.drew)
    (step : ∀ l T z, J l T z → ∀ i o, i < ops.size → ops[i]? = some o → l i = false → (∀ j ∈ pre i, l j = true) → ∀ A : Act, (∀ m d, ds[m]? = some d → A.tmps.getD d undef = T m) → (∀ q ∈ base, A.tmps.getD q.1 undef = q.2) → ∀ K' : Act → World → Prop, (∀ v z', J (upT l i true) (upT T i v) z' → K' (A.put o.dst v) z') → Oper.wp P o A z K' Q)
    (hg : ops.all (fun o => o.guard.isNone) = true)
    (fin : ∀ l T z, J l T z → (∀ i, i < ops.size → l i = true) → Q .normal (actA a ds T) z) : (Code.region id ops true).wp P Q a w := by
  have hdd : ∀ (i : Nat) (o : Oper), ops[i]? = some o → ∃ d, o.dst = some d ∧ ds[i]? = some d := fun i o ho => by
    have h1 := congrArg (fun xs => xs[i]?) hdst
    simp only [List.getElem?_map, Array.getElem?_toList, ho, Option.map_some] at h1
    cases h2 : ds[i]? with
    | none => rw [h2] at h1; cases h1
    | some d => rw [h2] at h1; exact ⟨d, by simpa using h1, rfl⟩
  refine wp_region_inv hm pre hp hpre (fun l A z => ∃ T, A = actA a ds T ∧ J l T z) ⟨_, actA_same a hn hd, h0 _⟩ ?_ ?_
  · rintro l A z ⟨T, rfl, hJ⟩ i o hi ho hl hpr K' hK
    obtain ⟨d, e1, e2⟩ := hdd i o ho
    have hlt := hd d (List.mem_of_getElem? e2)
    have hgn : o.guard = none := by
      rw [Array.all_eq_true'] at hg
      have := hg o (Array.mem_of_getElem? ho)
      simpa using this
    rw [if_pos (by unfold Region.wanted; rw [hgn])]
    refine step l T z hJ i o hi ho hl hpr (actA a ds T) (fun m d hm => actA_get a T hn hm (hd d (List.mem_of_getElem? hm))) (fun q hq => by rw [actA_out a T (hb q hq).2]; exact (hb q hq).1) K' (fun v z' hJ' => ?_)
    rw [e1, actA_put a T hn e2 hlt v]
    exact hK _ _ ⟨_, rfl, hJ'⟩
  · rintro l A z ⟨T, rfl, hJ⟩ hall
    exact fin l T z hJ hall
/-! ### a chain of calls on a Writer -/
/-- a slice of one cell, made here -/
def BS (BW : Nat) (z : World) (v u : Value) (t : TypeId) : Prop := ∃ b, v = .slice (some ⟨b, 0, none⟩) 1 1 ∧ Blk z b [u] t ∧ b ≠ BW
theorem BS.al {BW : Nat} {z : World} {v u : Value} {t : TypeId} (h : BS BW z v u t) (o : Obj) : BS BW (z.alloc o) v u t := by
  obtain ⟨b, e, hb, hn⟩ := h
  exact ⟨b, e, hb.below (below1 z o), hn⟩
theorem BS.kp {BW : Nat} {z z' : World} {v u : Value} {t : TypeId} (h : BS BW z v u t) (hk : Pk.Kp (BW + 2) BW z z') (ht : t ≠ 5) : BS BW z' v u t := by
  obtain ⟨b, e, hb, hn⟩ := h
  exact ⟨b, e, hb.kp hk ht hn, hn⟩
structure ChF (BW F X : Nat) (fs xs : List Value) (xt : TypeId) (w : World) (P : List UInt8) (builds pures : List Nat) (bv pv : Nat → Value) (bt : Nat → TypeId) (ch : List Nat) (pieces : List (List UInt8)) (z0 : World) (l : Nat → Bool) (T : Nat → Value) (p : Nat) (z : World) : Prop where
  kp : Pk.Kp (BW + 2) BW z0 z
  c : ∀ c k, ch[c]? = some k → l k = decide (c < p)
  ly : LyS BW F fs w (P ++ (pieces.take p).flatten) z
  x : Blk z X xs xt
  bs : ∀ k ∈ builds, l k = true → BS BW z (T k) (bv k) (bt k)
  ps : ∀ k ∈ pures, l k = true → T k = pv k
section
variable {BW F X : Nat} {fs xs : List Value} {xt : TypeId} {w : World} {P : List UInt8} {builds pures : List Nat} {bv pv : Nat → Value} {bt : Nat → TypeId} {ch : List Nat} {pieces : List (List UInt8)} {l : Nat → Bool} {T : Nat → Value} {p : Nat} {z z' z0 : World}
theorem ChF.pure (h : ChF BW F X fs xs xt w P builds pures bv pv bt ch pieces z0 l T p z) {i : Nat} (hc : i ∉ ch) (hb : i ∉ builds) : ChF BW F X fs xs xt w P builds pures bv pv bt ch pieces z0 (upT l i true) (upT T i (pv i)) p z where
  kp := h.kp
  c := fun c k hk => by
    have : k ≠ i := fun e => hc (e ▸ List.mem_of_getElem? hk)
    rw [upT_other l true this]; exact h.c c k hk
  ly := h.ly
  x := h.x
  bs := fun k hk hl => by
    have : k ≠ i := fun e => hb (e ▸ hk)
    rw [upT_other l true this] at hl
    rw [upT_other T _ this]; exact h.bs k hk hl
  ps := fun k hk hl => by
    by_cases e : k = i
    · subst e; rw [upT_same]
    · rw [upT_other l true e] at hl
      rw [upT_other T _ e]; exact h.ps k hk hl
theorem ChF.build (h : ChF BW F X fs xs xt w P builds pures bv pv bt ch pieces z0 l T p z) {i : Nat} (hc : i ∉ ch) (hq : i ∉ pures) : ChF BW F X fs xs xt w P builds pures bv pv bt ch pieces z0 (upT l i true) (upT T i (.slice (some ⟨z.heap.size, 0, none⟩) 1 1)) p (z.alloc (.cells #[bv i] (bt i))) where
  kp := h.kp.trans (Pk.Kp.of_below (below1 z _) h.ly.size)
  c := fun c k hk => by
    have : k ≠ i := fun e => hc (e ▸ List.mem_of_getElem? hk)
    rw [upT_other l true this]; exact h.c c k hk
  ly := h.ly.al _
  x := h.x.below (below1 z _)
  bs := fun k hk hl => by
    by_cases e : k = i
    · subst e; rw [upT_same]
      exact ⟨z.heap.size, rfl, Blk.new z [bv k] (bt k), by have := h.ly.size; omega⟩
    · rw [upT_other l true e] at hl
      rw [upT_other T _ e]; exact (h.bs k hk hl).al _
  ps := fun k hk hl => by
    have e : k ≠ i := fun e => hq (e ▸ hk)
    rw [upT_other l true e] at hl
    rw [upT_other T _ e]; exact h.ps k hk hl
theorem ChF.at (h : ChF BW F X fs xs xt w P builds pures bv pv bt ch pieces z0 l T p z) {i c : Nat} (hi : ch[c]? = some i) (hl : l i = false) (hpr : ∀ c' k, c = c' + 1 → ch[c']? = some k → l k = true) : p = c := by
  have h1 := h.c c i hi
  rw [hl] at h1
  have h2 : ¬ c < p := by simpa using h1.symm
  match c, hi, hpr with
  | 0, _, _ => omega
  | c' + 1, hi, hpr =>
    have hlt : c' < ch.length := by have := (List.getElem?_eq_some_iff.1 hi).1; omega
    have h3 := hpr c' ch[c'] rfl (List.getElem?_eq_getElem hlt)
    have h4 := h.c c' ch[c'] (List.getElem?_eq_getElem hlt)
    rw [h3] at h4
    have h5 : c' < p := by simpa using h4.symm
    omega
theorem ChF.call (h : ChF BW F X fs xs xt w P builds pures bv pv bt ch pieces z0 l T p z) {i : Nat} (hi : ch[p]? = some i) (hnd : ch.Nodup) (hb : i ∉ builds) {pc : List UInt8} (hpc : pieces[p]? = some pc) (hly : LyS BW F fs w (P ++ (pieces.take p).flatten ++ pc) z') (hk : Pk.Kp (BW + 2) BW z z') (hxt : xt ≠ 5) (hX : X ≠ BW) (hbt : ∀ k ∈ builds, bt k ≠ 5) :
    ChF BW F X fs xs xt w P builds pures bv pv bt ch pieces z0 (upT l i true) (upT T i (pv i)) (p + 1) z' where
  kp := h.kp.trans hk
  c := fun c k hk' => by
    by_cases e : k = i
    · subst e
      rw [upT_same]
      have : c = p := (List.getElem?_inj (List.getElem?_eq_some_iff.1 hk').1 hnd).1 (hk'.trans hi.symm)
      subst this
      simp
    · rw [upT_other l true e, h.c c k hk']
      have : c ≠ p := fun e' => e (by subst e'; rw [hk'] at hi; exact Option.some.inj hi)
      simp; omega
  ly := by
    rw [List.take_succ_eq_append_getElem (List.getElem?_eq_some_iff.1 hpc).1, List.flatten_append, (List.getElem?_eq_some_iff.1 hpc).2, ← List.append_assoc]
    simpa using hly
  x := h.x.kp hk hxt hX
  bs := fun k hk' hl => by
    have e : k ≠ i := fun e => hb (e ▸ hk')
    rw [upT_other l true e] at hl
    rw [upT_other T _ e]; exact (h.bs k hk' hl).kp hk (hbt k hk')
  ps := fun k hk' hl => by
    by_cases e : k = i
    · subst e; rw [upT_same]
    · rw [upT_other l true e] at hl
      rw [upT_other T _ e]; exact h.ps k hk' hl
end
end Go.Proofs.YtomlbfkkhhhfkaaDoor.Fc
