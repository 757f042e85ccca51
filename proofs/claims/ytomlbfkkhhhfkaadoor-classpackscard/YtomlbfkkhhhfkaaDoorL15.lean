/-
  The statements' own lay: a file's bytes.
  A region whose operations come in any order that its edges allow, by one invariant; a chain of calls on a Writer in such a region.
  The statements' own lay: a type (its closure).
-/
import Derived.Test.YtomlbfkkhhhfkaaDoorCsArc
import Derived.Deep.RegionHeld3
namespace Go.Proofs.YtomlbfkkhhhfkaaDoor.Fc
open Go.RowKit
set_option linter.unusedVariables false
set_option linter.unusedSimpArgs false

/-- a Writer that has laid Q, a file's block, the Writer's variable -/
structure LyS (BW F : Nat) (fs : List Value) (w : World) (Q : List UInt8) (z : World) : Prop where
  a : Pk.WAt (BW + 2) BW z Q
  f : Blk z F fs 35
  p : Blk z (BW + 1) [.pointer (some ⟨BW, 0, none⟩)] 51
  below : Below w.heap.size w z
  size : BW + 2 ≤ z.heap.size
  fb : F < BW
  wb : w.heap.size ≤ BW
section
variable {BW F : Nat} {fs : List Value} {w z z' : World} {Q Q' : List UInt8}
theorem LyS.al (h : LyS BW F fs w Q z) (o : Obj) : LyS BW F fs w Q (z.alloc o) :=
  ⟨wat_al h.a o, h.f.below (below1 z o), h.p.below (below1 z o), bl_al' h.below, by have := h.size; simp; omega, h.fb, h.wb⟩
theorem LyS.kp (h : LyS BW F fs w Q z) (ha : Pk.WAt (BW + 2) BW z' Q') (hk : Pk.Kp (BW + 2) BW z z') : LyS BW F fs w Q' z' :=
  ⟨ha, h.f.kp hk (by decide) (by have := h.fb; omega), h.p.kp hk (by decide) (by omega), h.below.trans (hk.below (by have := h.wb; omega) h.wb), Nat.le_trans h.size hk.size, h.fb, h.wb⟩
theorem LyS.below' (h : LyS BW F fs w Q z) (hb : Below z.heap.size z z') : LyS BW F fs w Q z' :=
  ⟨wat_below h.a hb, h.f.below hb, h.p.below hb, h.below.trans (hb.mono h.below.size), Nat.le_trans h.size hb.size, h.fb, h.wb⟩
theorem LyS.drw (h : LyS BW F fs w Q z) : LyS BW F fs w Q z.drew := ⟨h.a, h.f, h.p, h.below.drew, h.size, h.fb, h.wb⟩
theorem ly_num (n : Int) (h0 : OkI n) (sb c : Nat) (h : LyS BW F fs w Q z) (hB : Blk z sb [.int .i64 n] 3) (hne : sb ≠ BW) (hlen : Q.length + 9 ≤ 140737488355328) :
    Calls Tryd.prog 19 #[.pointer (some ⟨BW, 0, none⟩), .slice (some ⟨sb, 0, none⟩) 1 c] z fun e z' => e = .returned (.pointer (some ⟨BW, 0, none⟩)) ∧ LyS BW F fs w (Q ++ Pk.encI n) z' ∧ Pk.Kp (BW + 2) BW z z' :=
  (numI1 (BW + 2) BW n h0 sb c Q z h.a (by omega) h.size hB hne hlen).mono fun e z' ⟨p, q, r⟩ => ⟨p, h.kp q r, r⟩
theorem ly_text (s : ByteArray) (sb c : Nat) (h : LyS BW F fs w Q z) (hB : Blk z sb [.string s] 9) (hne : sb ≠ BW) (hlen : Q.length + (sB s).length + 9 ≤ 140737488355328) :
    Calls Tryd.prog 20 #[.pointer (some ⟨BW, 0, none⟩), .slice (some ⟨sb, 0, none⟩) 1 c] z fun e z' => e = .returned (.pointer (some ⟨BW, 0, none⟩)) ∧ LyS BW F fs w (Q ++ sB s) z' ∧ Pk.Kp (BW + 2) BW z z' := by
  have e : Pk.textAll [bl s] = sB s := by simp [Pk.textAll, sB]
  have hv : Pk.Vals (BW + 2) BW z (some ⟨sb, 0, none⟩) (Pk.strs [bl s]) := .inr ⟨_, rfl, .inr ⟨hB.lt, hB.nb (by decide)⟩, hne, fun i hi => by
    obtain rfl : i = 0 := by simp [Pk.strs] at hi; omega
    have := hB.cell 0
    simpa [Addr.add, Pk.strs, bl_mk] using this⟩
  have hh := Pk.text_any (BW + 2) BW [bl s] (some ⟨sb, 0, none⟩) c Q z h.a (by omega) h.size hv (by simp) (by rw [e]; exact hlen)
  rw [e] at hh
  exact hh.mono fun e z' ⟨p, q, r⟩ => ⟨p, h.kp q r, r⟩
theorem ly_flag (b : Bool) (sb c : Nat) (h : LyS BW F fs w Q z) (hB : Blk z sb [.bool b] 4) (hne : sb ≠ BW) (hlen : Q.length + 19 ≤ 140737488355328) :
    Calls Tryd.prog 40 #[.pointer (some ⟨BW, 0, none⟩), .slice (some ⟨sb, 0, none⟩) 1 c] z fun e z' => e = .returned (.pointer (some ⟨BW, 0, none⟩)) ∧ LyS BW F fs w (Q ++ [Pk.flagB b]) z' ∧ Pk.Kp (BW + 2) BW z z' := by
  have hv : Pk.Vals (BW + 2) BW z (some ⟨sb, 0, none⟩) (Pk.bools [b]) := .inr ⟨_, rfl, .inr ⟨hB.lt, hB.nb (by decide)⟩, hne, fun i hi => by
    obtain rfl : i = 0 := by simp [Pk.bools] at hi; omega
    have := hB.cell 0
    simpa [Addr.add, Pk.bools] using this⟩
  have hh := Pk.flag_any (BW + 2) BW [b] (some ⟨sb, 0, none⟩) c Q z h.a (by omega) h.size hv (by simp; omega)
  exact hh.mono fun e z' ⟨p, q, r⟩ => ⟨p, h.kp q r, r⟩
theorem ly_int (n : Int) (h0 : OkI n) (sb c : Nat) (h : LyS BW F fs w Q z) (hB : Blk z sb [.int .i64 n] 2) (hne : sb ≠ BW) (hlen : Q.length + 18 + 9 ≤ 140737488355328) :
    Calls Tryd.prog 38 #[.pointer (some ⟨BW, 0, none⟩), .slice (some ⟨sb, 0, none⟩) 1 c] z fun e z' => e = .returned (.pointer (some ⟨BW, 0, none⟩)) ∧ LyS BW F fs w (Q ++ Pk.intB n) z' ∧ Pk.Kp (BW + 2) BW z z' := by
  have e : Pk.intAll [n] = Pk.intB n := by simp [Pk.intAll]
  have hv : Pk.Vals (BW + 2) BW z (some ⟨sb, 0, none⟩) (Pk.ints [n]) := .inr ⟨_, rfl, .inr ⟨hB.lt, hB.nb (by decide)⟩, hne, fun i hi => by
    obtain rfl : i = 0 := by simp [Pk.ints] at hi; omega
    have := hB.cell 0
    simpa [Addr.add, Pk.ints] using this⟩
  have hh := Pk.wint_any (BW + 2) BW [n] (by intro v hv; simp at hv; subst hv; exact h0) (some ⟨sb, 0, none⟩) c Q z h.a (by omega) h.size hv (by simp; omega)
  rw [e] at hh
  exact hh.mono fun e z' ⟨p, q, r⟩ => ⟨p, h.kp q r, r⟩
end
end Go.Proofs.YtomlbfkkhhhfkaaDoor.Fc
namespace Go.Proofs.YtomlbfkkhhhfkaaDoor.Fc
open Go.RowKit
set_option linter.unusedVariables false
set_option linter.unusedSimpArgs false

def upT {α : Type} (T : Nat → α) (i : Nat) (v : α) : Nat → α := fun j => if j = i then v else T j
theorem upT_same {α : Type} (T : Nat → α) (i : Nat) (v : α) : upT T i v i = v := if_pos rfl
theorem upT_other {α : Type} (T : Nat → α) {i j : Nat} (v : α) (h : j ≠ i) : upT T i v j = T j := if_neg h
theorem countP_lt {p q : Nat → Bool} {i : Nat} : ∀ xs : List Nat, (∀ j ∈ xs, q j = true → p j = true) → i ∈ xs → p i = true → q i = false → xs.countP q < xs.countP p := by
  intro xs
  induction xs with
  | nil => intro _ h; cases h
  | cons x xs ih =>
    intro hle hm hp hq
    have hle' : ∀ ys : List Nat, (∀ j ∈ ys, q j = true → p j = true) → ys.countP q ≤ ys.countP p := by
      intro ys
      induction ys with
      | nil => intro _; simp
      | cons y ys ihy =>
        intro h
        have h1 := ihy (fun j hj => h j (by simp [hj]))
        have h2 := h y (by simp)
        simp only [List.countP_cons]
        cases hqy : q y with
        | false => simp; omega
        | true => rw [h2 hqy]; simp; omega
    simp only [List.countP_cons]
    rcases List.mem_cons.1 hm with rfl | hm
    · have h1 := hle' xs (fun j hj => hle j (by simp [hj]))
      rw [hp, hq]; simp; omega
    · have h1 := ih (fun j hj => hle j (by simp [hj])) hm hp hq
      have h2 := hle x (by simp)
      cases hqx : q x with
      | false => simp; omega
      | true => rw [h2 hqx]; simp; omega
section
variable {P : Program} {ops : Array Oper} {Q : Exit → Act → World → Prop}
/-- each operation waits for these, and for none behind itself -/
def preOk (ops : Array Oper) (pre : Nat → List Nat) : Bool := (List.range ops.size).all fun i => ((ops[i]?).map (fun o => ((pre i).all fun j => o.after.any fun e => Region.binds .any e && e.on == j) && (o.after.all fun e => !Region.binds .any e || decide (e.on < i)))).getD false
theorem ready_pre {pre : Nat → List Nat} (hp : preOk ops pre = true) {listed : Array Bool} {i : Nat} (hi : i ∈ Region.ready .any ops listed) : i < ops.size ∧ listed.getD i true = false ∧ ∀ j ∈ pre i, listed.getD j false = true := by
  unfold Region.ready at hi
  rw [List.mem_filter, List.mem_range] at hi
  obtain ⟨hl, hc⟩ := hi
  rw [Bool.and_eq_true] at hc
  obtain ⟨h1, h2⟩ := hc
  unfold preOk at hp
  rw [List.all_eq_true] at hp
  have hpi := hp i (List.mem_range.2 hl)
  rw [Array.getElem?_eq_getElem hl] at h2 hpi
  simp only [Option.map_some, Option.getD_some] at h2 hpi
  rw [Bool.and_eq_true] at hpi
  refine ⟨hl, by simpa using h1, fun j hj => ?_⟩
  have h3 := (List.all_eq_true.1 hpi.1) j hj
  rw [Array.any_eq_true'] at h3
  obtain ⟨e, he, h4⟩ := h3
  rw [Bool.and_eq_true] at h4
  rw [Array.all_eq_true'] at h2
  have h5 := h2 e he
  rw [h4.1] at h5
  have h6 : e.on = j := by simpa using h4.2
  rw [← h6]
  simpa using h5
theorem ready_none {pre : Nat → List Nat} (hp : preOk ops pre = true) {listed : Array Bool} (hs : listed.size = ops.size) (hr : Region.ready .any ops listed = []) : ∀ i, i < ops.size → listed.getD i true = true := by
  intro i
  induction i using Nat.strongRecOn with
  | ind i ih =>
    intro hi
    cases hc : listed.getD i true with
    | true => rfl
    | false =>
      exfalso
      have hm : i ∈ Region.ready .any ops listed := by
        unfold Region.ready
        rw [List.mem_filter, List.mem_range]
        refine ⟨hi, ?_⟩
        rw [hc, Bool.and_eq_true]
        refine ⟨rfl, ?_⟩
        unfold preOk at hp
        rw [List.all_eq_true] at hp
        have hpi := hp i (List.mem_range.2 hi)
        rw [Array.getElem?_eq_getElem hi] at hpi ⊢
        simp only [Option.map_some, Option.getD_some] at hpi ⊢
        rw [Bool.and_eq_true] at hpi
        rw [Array.all_eq_true']
        intro e he
        have h1 := (Array.all_eq_true'.1 hpi.2) e he
        cases hb : Region.binds .any e with
        | false => simp
        | true =>
          rw [hb] at h1
          have h2 : e.on < i := by simpa using h1
          have h3 := ih e.on h2 (by omega)
          have hlt : e.on < listed.size := by omega
          rw [Array.getD_eq_getD_getElem?, Array.getElem?_eq_getElem hlt] at h3 ⊢
          simpa using h3
      rw [hr] at hm
      cases hm
theorem wpAnyH_inv {pre : Nat → List Nat} (hp : preOk ops pre = true) (I : (Nat → Bool) → Act → World → Prop)
    (step : ∀ l a w, I l a w → ∀ i o, i < ops.size → ops[i]? = some o → l i = false → (∀ j ∈ pre i, l j = true) → ∀ K' : Act → World → Prop, (∀ a' w', I (upT l i true) a' w' → K' a' w') → if Region.wanted o (yielded ops a.tmps) = true then Oper.wp P o a w K' Q else K' (a.put o.dst undef) w)
    (fin : ∀ l a w, I l a w → (∀ i, i < ops.size → l i = true) → Q .normal a w) (hpre : ∀ i j, j ∈ pre i → j < ops.size) :
    ∀ (fuel : Nat) (listed : Array Bool) (l : Nat → Bool) (a : Act) (w : World), listed.size = ops.size → (∀ i, i < ops.size → listed[i]? = some (l i)) → (List.range ops.size).countP (fun i => !l i) ≤ fuel → I l a w → wpAnyH P .any ops Q (fun _ => True) fuel listed a w := by
  have hget : ∀ (listed : Array Bool) (l : Nat → Bool) (b : Bool), (∀ i, i < ops.size → listed[i]? = some (l i)) → ∀ i, i < ops.size → listed.getD i b = l i := by
    intro listed l b h i hi
    rw [Array.getD_eq_getD_getElem?, h i hi]
    rfl
  intro fuel
  induction fuel with
  | zero =>
    intro listed l a w hs hl hc hI
    have hall : ∀ i, i < ops.size → l i = true := fun i hi => by
      have h0 : (List.range ops.size).countP (fun i => !l i) = 0 := by omega
      rw [List.countP_eq_zero] at h0
      have := h0 i (List.mem_range.2 hi)
      simpa using this
    refine ⟨?_, fin l a w hI hall⟩
    cases hr : Region.ready .any ops listed with
    | nil => rfl
    | cons i rs =>
      have hm : i ∈ Region.ready .any ops listed := by rw [hr]; simp
      obtain ⟨h1, h2, _⟩ := ready_pre hp hm
      rw [hget listed l true hl i h1, hall i h1] at h2
      cases h2
  | succ fuel ih =>
    intro listed l a w hs hl hc hI
    refine ⟨fun hr => fin l a w hI (fun i hi => by rw [← hget listed l true hl i hi]; exact ready_none hp hs hr i hi), fun i hi => ?_⟩
    obtain ⟨h1, h2, h3⟩ := ready_pre hp hi
    rw [hget listed l true hl i h1] at h2
    refine wpOp_step (o := ops[i]) (Array.getElem?_eq_getElem h1) (fun K' hK => ?_)
    refine step l a w hI i ops[i] h1 (Array.getElem?_eq_getElem h1) h2 (fun j hj => ?_) K' (fun a' w' hI' => hK a' w' ⟨trivial, ih _ (upT l i true) a' w' (by simpa using hs) (fun j hj => ?_) ?_ hI'⟩)
    · rw [← hget listed l false hl j (hpre i j hj)]; exact h3 j hj
    · by_cases hji : j = i
      · subst hji
        rw [upT_same, Array.getElem?_setIfInBounds_self_of_lt (by omega)]
      · rw [upT_other l true hji, Array.getElem?_setIfInBounds_ne (fun e => hji e.symm)]; exact hl j hj
    · have h5 := countP_lt (p := fun j => !l j) (q := fun j => !upT l i true j) (i := i) (List.range ops.size) (fun j _ hq => by
        by_cases hji : j = i
        · subst hji; rw [upT_same] at hq; cases hq
        · rwa [upT_other l true hji] at hq) (List.mem_range.2 h1) (by simp [h2]) (by rw [upT_same]; rfl)
      omega
/-- a region that draws its order, by an invariant -/
theorem wp_region_inv {id : Nat} {a : Act} {w : World} (hm : P.follows .mixedOrders = true) (pre : Nat → List Nat) (hp : preOk ops pre = true) (hpre : ∀ i j, j ∈ pre i → j < ops.size) (I : (Nat → Bool) → Act → World → Prop) (h0 : I (fun _ => false) a w.drew)
    (step : ∀ l a w, I l a w → ∀ i o, i < ops.size → ops[i]? = some o → l i = false → (∀ j ∈ pre i, l j = true) → ∀ K' : Act → World → Prop, (∀ a' w', I (upT l i true) a' w' → K' a' w') → if Region.wanted o (yielded ops a.tmps) = true then Oper.wp P o a w K' Q else K' (a.put o.dst undef) w)
    (fin : ∀ l a w, I l a w → (∀ i, i < ops.size → l i = true) → Q .normal a w) : (Code.region id ops true).wp P Q a w :=
  wp_region_held_drew (S := fun _ => True) hm trivial (fun _ => wpAnyH_inv hp I step fin hpre ops.size _ (fun _ => false) a w.drew (by simp) (fun i hi => by simp [hi]) (by simp) h0)
end
/-! ### the slots that a region fills -/
def setAll (t : Array Value) (T : Nat → Value) : Nat → List Nat → Array Value
  | _, [] => t
  | k, d :: ds => setAll (t.setIfInBounds d (T k)) T (k + 1) ds
theorem setAll_size (T : Nat → Value) (ds : List Nat) : ∀ (t : Array Value) (k : Nat), (setAll t T k ds).size = t.size := by
  induction ds with
  | nil => intro t k; rfl
  | cons d ds ih => intro t k; unfold setAll; rw [ih]; simp
theorem setAll_out (T : Nat → Value) {j : Nat} (ds : List Nat) : ∀ (t : Array Value) (k : Nat), j ∉ ds → (setAll t T k ds)[j]? = t[j]? := by
  induction ds with
  | nil => intro t k _; rfl
  | cons d ds ih =>
    intro t k h
    simp only [List.mem_cons, not_or] at h
    unfold setAll
    rw [ih _ _ h.2, Array.getElem?_setIfInBounds_ne (fun e => h.1 e.symm)]
theorem setAll_in (T : Nat → Value) {d : Nat} (ds : List Nat) : ∀ (t : Array Value) (k m : Nat), ds.Nodup → ds[m]? = some d → d < t.size → (setAll t T k ds)[d]? = some (T (k + m)) := by
  induction ds with
  | nil => intro t k m _ h; simp at h
  | cons x ds ih =>
    intro t k m hn h hd
    rw [List.nodup_cons] at hn
    unfold setAll
    match m, h with
    | 0, h =>
      simp only [List.getElem?_cons_zero, Option.some.injEq] at h
      subst h
      rw [setAll_out T ds _ _ hn.1, Array.getElem?_setIfInBounds_self_of_lt hd]
      rfl
    | m + 1, h =>
      rw [List.getElem?_cons_succ] at h
      rw [ih _ _ m hn.2 h (by simpa using hd)]
      congr 2
      omega
theorem setAll_set (t : Array Value) (T : Nat → Value) {ds : List Nat} (hn : ds.Nodup) {m d : Nat} (hm : ds[m]? = some d) (hd : d < t.size) (v : Value) : (setAll t T 0 ds).setIfInBounds d v = setAll t (upT T m v) 0 ds := by
  apply Array.ext_getElem?
  intro j
  by_cases hj : j = d
  · subst hj
    rw [Array.getElem?_setIfInBounds_self_of_lt (by rw [setAll_size]; exact hd), setAll_in _ ds t 0 m hn hm hd, Nat.zero_add, upT_same]
  · rw [Array.getElem?_setIfInBounds_ne (fun e => hj e.symm)]
    by_cases hin : j ∈ ds
    · obtain ⟨m', hm'⟩ := List.getElem?_of_mem hin
      by_cases hlt : j < t.size
      · rw [setAll_in _ ds t 0 m' hn hm' hlt, setAll_in _ ds t 0 m' hn hm' hlt, upT_other]
        intro e
        rw [Nat.zero_add] at e
        subst e
        rw [hm] at hm'
        exact hj (Option.some.inj hm').symm
      · rw [Array.getElem?_eq_none (by rw [setAll_size]; omega), Array.getElem?_eq_none (by rw [setAll_size]; omega)]
    · rw [setAll_out _ ds t 0 hin, setAll_out _ ds t 0 hin]
theorem setAll_same (t : Array Value) {ds : List Nat} (hn : ds.Nodup) (hd : ∀ d ∈ ds, d < t.size) : setAll t (fun k => t.getD (ds.getD k 0) undef) 0 ds = t := by
  apply Array.ext_getElem?
  intro j
  by_cases hin : j ∈ ds
  · obtain ⟨m, hm⟩ := List.getElem?_of_mem hin
    have hlt := hd j hin
    rw [setAll_in _ ds t 0 m hn hm hlt, Nat.zero_add, Array.getElem?_eq_getElem hlt]
    simp [List.getD, hm, Array.getD, hlt]
  · rw [setAll_out _ ds t 0 hin]
def actA (a : Act) (ds : List Nat) (T : Nat → Value) : Act := { a with tmps := setAll a.tmps T 0 ds }
theorem actA_get (a : Act) (T : Nat → Value) {ds : List Nat} (hn : ds.Nodup) {m d : Nat} (hm : ds[m]? = some d) (hd : d < a.tmps.size) : (actA a ds T).tmps.getD d undef = T m := by
  show (setAll a.tmps T 0 ds).getD d undef = T m
  rw [Array.getD_eq_getD_getElem?, setAll_in T ds a.tmps 0 m hn hm hd, Nat.zero_add]
  rfl
theorem actA_out (a : Act) (T : Nat → Value) {ds : List Nat} {d : Nat} (hd : d ∉ ds) : (actA a ds T).tmps.getD d undef = a.tmps.getD d undef := by
  show (setAll a.tmps T 0 ds).getD d undef = _
  rw [Array.getD_eq_getD_getElem?, setAll_out T ds a.tmps 0 hd, Array.getD_eq_getD_getElem?]
theorem actA_put (a : Act) (T : Nat → Value) {ds : List Nat} (hn : ds.Nodup) {m d : Nat} (hm : ds[m]? = some d) (hd : d < a.tmps.size) (v : Value) : (actA a ds T).put (some d) v = actA a ds (upT T m v) := by
  show ({ (actA a ds T) with tmps := (setAll a.tmps T 0 ds).setIfInBounds d v } : Act) = _
  rw [setAll_set a.tmps T hn hm hd v]
  rfl
theorem actA_same (a : Act) {ds : List Nat} (hn : ds.Nodup) (hd : ∀ d ∈ ds, d < a.tmps.size) : a = actA a ds (fun k => a.tmps.getD (ds.getD k 0) undef) := by
  show a = ({ a with tmps := _ } : Act)
  rw [setAll_same a.tmps hn hd]
/-- a region that draws its order, its slots filled by operations of these numbers: nothing is asked of the act but its slots -/
theorem wp_region_chain {P : Program} {ops : Array Oper} {Q : Exit → Act → World → Prop} {id : Nat} {a : Act} {w : World} (hm : P.follows .mixedOrders = true) (pre : Nat → List Nat) (ds : List Nat) (hp : preOk ops pre = true) (hpre : ∀ i j, j ∈ pre i → j < ops.size)
    (hdst : ops.toList.map (fun o => o.dst) = ds.map some) (hn : ds.Nodup) (hd : ∀ d ∈ ds, d < a.tmps.size) (base : List (Nat × Value)) (hb : ∀ q ∈ base, a.tmps.getD q.1 undef = q.2 ∧ q.1 ∉ ds) (J : (Nat → Bool) → (Nat → Value) → World → Prop) (h0 : ∀ T, J (fun _ => false) T w.drew)
    (step : ∀ l T z, J l T z → ∀ i o, i < ops.size → ops[i]? = some o → l i = false → (∀ j ∈ pre i, l j = true) → ∀ A : Act, (∀ m d, ds[m]? = some d → A.tmps.getD d undef = T m) → (∀ q ∈ base, A.tmps.getD q.1 undef = q.2) → ∀ K' : Act → World → Prop, (∀ v z', J (upT l i true) (upT T i v) z' → K' (A.put o.dst v) z') → Oper.wp P o A z K' Q)
    (hg : ops.all (fun o => o.guard.isNone) = true)
    (fin : ∀ l T z, J l T z → (∀ i, i < ops.size → l i = true) → Q .normal (actA a ds T) z) : (Code.region id ops true).wp P Q a w := by
  have hdd : ∀ (i : Nat) (o : Oper), ops[i]? = some o → ∃ d, o.dst = some d ∧ ds[i]? = some d := fun i o ho => by
    have h1 := congrArg (fun xs => xs[i]?) hdst
    simp only [List.getElem?_map, Array.getElem?_toList, ho, Option.map_some] at h1
    cases h2 : ds[i]? with
    | none => rw [h2] at h1; cases h1
    | some d => rw [h2] at h1; exact ⟨d, by simpa using h1, rfl⟩
  refine wp_region_inv hm pre hp hpre (fun l A z => ∃ T, A = actA a ds T ∧ J l T z) ⟨_, actA_same a hn hd, h0 _⟩ ?_ ?_
  · rintro l A z ⟨T, rfl, hJ⟩ i o hi ho hl hpr K' hK
    obtain ⟨d, e1, e2⟩ := hdd i o ho
    have hlt := hd d (List.mem_of_getElem? e2)
    have hgn : o.guard = none := by
      rw [Array.all_eq_true'] at hg
      have := hg o (Array.mem_of_getElem? ho)
      simpa using this
    rw [if_pos (by unfold Region.wanted; rw [hgn])]
    refine step l T z hJ i o hi ho hl hpr (actA a ds T) (fun m d hm => actA_get a T hn hm (hd d (List.mem_of_getElem? hm))) (fun q hq => by rw [actA_out a T (hb q hq).2]; exact (hb q hq).1) K' (fun v z' hJ' => ?_)
    rw [e1, actA_put a T hn e2 hlt v]
    exact hK _ _ ⟨_, rfl, hJ'⟩
  · rintro l A z ⟨T, rfl, hJ⟩ hall
    exact fin l T z hJ hall
/-! ### a chain of calls on a Writer -/
/-- a slice of one cell, made here -/
def BS (BW : Nat) (z : World) (v u : Value) (t : TypeId) : Prop := ∃ b, v = .slice (some ⟨b, 0, none⟩) 1 1 ∧ Blk z b [u] t ∧ b ≠ BW
theorem BS.al {BW : Nat} {z : World} {v u : Value} {t : TypeId} (h : BS BW z v u t) (o : Obj) : BS BW (z.alloc o) v u t := by
  obtain ⟨b, e, hb, hn⟩ := h
  exact ⟨b, e, hb.below (below1 z o), hn⟩
theorem BS.kp {BW : Nat} {z z' : World} {v u : Value} {t : TypeId} (h : BS BW z v u t) (hk : Pk.Kp (BW + 2) BW z z') (ht : t ≠ 5) : BS BW z' v u t := by
  obtain ⟨b, e, hb, hn⟩ := h
  exact ⟨b, e, hb.kp hk ht hn, hn⟩
structure ChF (BW F X : Nat) (fs xs : List Value) (xt : TypeId) (w : World) (P : List UInt8) (builds pures : List Nat) (bv pv : Nat → Value) (bt : Nat → TypeId) (ch : List Nat) (pieces : List (List UInt8)) (z0 : World) (l : Nat → Bool) (T : Nat → Value) (p : Nat) (z : World) : Prop where
  kp : Pk.Kp (BW + 2) BW z0 z
  c : ∀ c k, ch[c]? = some k → l k = decide (c < p)
  ly : LyS BW F fs w (P ++ (pieces.take p).flatten) z
  x : Blk z X xs xt
  bs : ∀ k ∈ builds, l k = true → BS BW z (T k) (bv k) (bt k)
  ps : ∀ k ∈ pures, l k = true → T k = pv k
section
variable {BW F X : Nat} {fs xs : List Value} {xt : TypeId} {w : World} {P : List UInt8} {builds pures : List Nat} {bv pv : Nat → Value} {bt : Nat → TypeId} {ch : List Nat} {pieces : List (List UInt8)} {l : Nat → Bool} {T : Nat → Value} {p : Nat} {z z' z0 : World}
theorem ChF.pure (h : ChF BW F X fs xs xt w P builds pures bv pv bt ch pieces z0 l T p z) {i : Nat} (hc : i ∉ ch) (hb : i ∉ builds) : ChF BW F X fs xs xt w P builds pures bv pv bt ch pieces z0 (upT l i true) (upT T i (pv i)) p z where
  kp := h.kp
  c := fun c k hk => by
    have : k ≠ i := fun e => hc (e ▸ List.mem_of_getElem? hk)
    rw [upT_other l true this]; exact h.c c k hk
  ly := h.ly
  x := h.x
  bs := fun k hk hl => by
    have : k ≠ i := fun e => hb (e ▸ hk)
    rw [upT_other l true this] at hl
    rw [upT_other T _ this]; exact h.bs k hk hl
  ps := fun k hk hl => by
    by_cases e : k = i
    · subst e; rw [upT_same]
    · rw [upT_other l true e] at hl
      rw [upT_other T _ e]; exact h.ps k hk hl
theorem ChF.build (h : ChF BW F X fs xs xt w P builds pures bv pv bt ch pieces z0 l T p z) {i : Nat} (hc : i ∉ ch) (hq : i ∉ pures) : ChF BW F X fs xs xt w P builds pures bv pv bt ch pieces z0 (upT l i true) (upT T i (.slice (some ⟨z.heap.size, 0, none⟩) 1 1)) p (z.alloc (.cells #[bv i] (bt i))) where
  kp := h.kp.trans (Pk.Kp.of_below (below1 z _) h.ly.size)
  c := fun c k hk => by
    have : k ≠ i := fun e => hc (e ▸ List.mem_of_getElem? hk)
    rw [upT_other l true this]; exact h.c c k hk
  ly := h.ly.al _
  x := h.x.below (below1 z _)
  bs := fun k hk hl => by
    by_cases e : k = i
    · subst e; rw [upT_same]
      exact ⟨z.heap.size, rfl, Blk.new z [bv k] (bt k), by have := h.ly.size; omega⟩
    · rw [upT_other l true e] at hl
      rw [upT_other T _ e]; exact (h.bs k hk hl).al _
  ps := fun k hk hl => by
    have e : k ≠ i := fun e => hq (e ▸ hk)
    rw [upT_other l true e] at hl
    rw [upT_other T _ e]; exact h.ps k hk hl
theorem ChF.at (h : ChF BW F X fs xs xt w P builds pures bv pv bt ch pieces z0 l T p z) {i c : Nat} (hi : ch[c]? = some i) (hl : l i = false) (hpr : ∀ c' k, c = c' + 1 → ch[c']? = some k → l k = true) : p = c := by
  have h1 := h.c c i hi
  rw [hl] at h1
  have h2 : ¬ c < p := by simpa using h1.symm
  match c, hi, hpr with
  | 0, _, _ => omega
  | c' + 1, hi, hpr =>
    have hlt : c' < ch.length := by have := (List.getElem?_eq_some_iff.1 hi).1; omega
    have h3 := hpr c' ch[c'] rfl (List.getElem?_eq_getElem hlt)
    have h4 := h.c c' ch[c'] (List.getElem?_eq_getElem hlt)
    rw [h3] at h4
    have h5 : c' < p := by simpa using h4.symm
    omega
theorem ChF.call (h : ChF BW F X fs xs xt w P builds pures bv pv bt ch pieces z0 l T p z) {i : Nat} (hi : ch[p]? = some i) (hnd : ch.Nodup) (hb : i ∉ builds) {pc : List UInt8} (hpc : pieces[p]? = some pc) (hly : LyS BW F fs w (P ++ (pieces.take p).flatten ++ pc) z') (hk : Pk.Kp (BW + 2) BW z z') (hxt : xt ≠ 5) (hX : X ≠ BW) (hbt : ∀ k ∈ builds, bt k ≠ 5) :
    ChF BW F X fs xs xt w P builds pures bv pv bt ch pieces z0 (upT l i true) (upT T i (pv i)) (p + 1) z' where
  kp := h.kp.trans hk
  c := fun c k hk' => by
    by_cases e : k = i
    · subst e
      rw [upT_same]
      have : c = p := (List.getElem?_inj (List.getElem?_eq_some_iff.1 hk').1 hnd).1 (hk'.trans hi.symm)
      subst this
      simp
    · rw [upT_other l true e, h.c c k hk']
      have : c ≠ p := fun e' => e (by subst e'; rw [hk'] at hi; exact Option.some.inj hi)
      simp; omega
  ly := by
    rw [List.take_succ_eq_append_getElem (List.getElem?_eq_some_iff.1 hpc).1, List.flatten_append, (List.getElem?_eq_some_iff.1 hpc).2, ← List.append_assoc]
    simpa using hly
  x := h.x.kp hk hxt hX
  bs := fun k hk' hl => by
    have e : k ≠ i := fun e => hb (e ▸ hk')
    rw [upT_other l true e] at hl
    rw [upT_other T _ e]; exact (h.bs k hk' hl).kp hk (hbt k hk')
  ps := fun k hk' hl => by
    by_cases e : k = i
    · subst e; rw [upT_same]
    · rw [upT_other l true e] at hl
      rw [upT_other T _ e]; exact h.ps k hk' hl
end
end Go.Proofs.YtomlbfkkhhhfkaaDoor.Fc
namespace Go.Proofs.YtomlbfkkhhhfkaaDoor.Fc
open Go.RowKit
set_option linter.unusedVariables false
set_option linter.unusedSimpArgs false

set_option maxHeartbeats 4000000 in
set_option maxRecDepth 100000 in
theorem clos39 (BW F : Nat) (fs : List Value) (w : World) (Q : List UInt8) (n : ByteArray) (a : Bool) (z0 : World) (h : LyS BW F fs w Q z0) (hlen : Q.length + (sB n).length + 30 ≤ 140737488355328) :
    Calls Tryd.prog 39 #[.agg #[.string n, .bool a], .pointer (some ⟨BW + 1, 0, none⟩)] z0 fun e z' => e = .returned (.tuple #[]) ∧ LyS BW F fs w (Q ++ tyB ⟨n, a⟩) z' ∧ Pk.Kp (BW + 2) BW z0 z' := by
  obtain ⟨X, HXE⟩ : ∃ b, Hid (b = z0.heap.size) := ⟨_, Lib.hid rfl⟩
  have HX : Hid (Blk (z0.alloc (.cells #[.string n, .bool a] 60)) X [.string n, .bool a] 60) := Lib.hid (by rw [HXE.out]; exact Blk.new z0 _ 60)
  have HK0 : Hid (Pk.Kp (BW + 2) BW z0 (z0.alloc (.cells #[.string n, .bool a] 60))) := Lib.hid (Pk.Kp.of_below (below1 z0 _) h.size)
  have HL : Hid (LyS BW F fs w Q (z0.alloc (.cells #[.string n, .bool a] 60))) := Lib.hid (h.al _)
  have hX : X ≠ BW := by rw [HXE.out]; have := h.size; omega
  go_enter Tryd.func39, Tryd.ntmps39
  go_upto_region 1 with fail
  rw [← HXE.out]
  clear HXE h
  obtain ⟨PV, HPV⟩ : ∃ f : Nat → Value, Hid (f = (fun k => match k with | 0 => .pointer (some ⟨BW, 0, none⟩) | 1 => .pointer (some ⟨X, 0, none⟩) | 2 => .string n | 3 => undef | 4 => .pointer (some ⟨BW, 0, none⟩) | 5 => .pointer (some ⟨X, 1, none⟩) | 6 => .bool a | 7 => undef | 8 => .pointer (some ⟨BW, 0, none⟩) | _ => undef)) := ⟨_, Lib.hid rfl⟩
  obtain ⟨BV, HBV⟩ : ∃ f : Nat → Value, Hid (f = (fun k => match k with | 0 => undef | 1 => undef | 2 => undef | 3 => .string n | 4 => undef | 5 => undef | 6 => undef | 7 => .bool a | 8 => undef | _ => undef)) := ⟨_, Lib.hid rfl⟩
  obtain ⟨BT, HBT⟩ : ∃ f : Nat → TypeId, Hid (f = (fun k => match k with | 0 => 0 | 1 => 0 | 2 => 0 | 3 => 9 | 4 => 0 | 5 => 0 | 6 => 0 | 7 => 4 | 8 => 0 | _ => 0)) := ⟨_, Lib.hid rfl⟩
  obtain ⟨PC, HPC⟩ : ∃ f : List (List UInt8), Hid (f = [sB n, [Pk.flagB a]]) := ⟨_, Lib.hid rfl⟩
  have HBT5 : Hid (∀ k ∈ [3, 7], BT k ≠ 5) := Lib.hid (by rw [HBT.out]; decide)
  refine wp_region_chain (by kernel_rfl) (fun k => match k with | 0 => [] | 1 => [] | 2 => [1] | 3 => [2] | 4 => [0, 3] | 5 => [] | 6 => [5] | 7 => [6] | 8 => [4, 7] | _ => []) [3, 4, 5, 6, 7, 8, 9, 10, 11] (by kernel_rfl) ?hpre (by kernel_rfl) (by decide) (by intro d hd; have h : d < 12 := (show ∀ d ∈ [3, 4, 5, 6, 7, 8, 9, 10, 11], d < 12 by decide) d hd; exact h) [(1, .pointer (some ⟨BW + 1, 0, none⟩)), (2, .pointer (some ⟨X, 0, none⟩))] ?hbase (fun l T z => ∃ p, ChF BW F X fs [.string n, .bool a] 60 w Q [3, 7] [0, 1, 2, 4, 5, 6, 8] BV PV BT [4, 8] PC (z0.alloc (.cells #[.string n, .bool a] 60)) l T p z) ?h0 ?step (by kernel_rfl) ?fin
  case hpre =>
    intro i j hj
    show j < 9
    match i, hj with
    | 0, hj => cases hj
    | 1, hj => cases hj
    | 2, hj => simp at hj; omega
    | 3, hj => simp at hj; omega
    | 4, hj => simp at hj; omega
    | 5, hj => cases hj
    | 6, hj => simp at hj; omega
    | 7, hj => simp at hj; omega
    | 8, hj => simp at hj; omega
    | i + 9, hj => cases hj
  case hbase =>
    intro q hq
    simp only [List.mem_cons, List.not_mem_nil, or_false] at hq
    rcases hq with rfl | rfl
    · exact ⟨rfl, by simp⟩
    · exact ⟨rfl, by simp⟩
  case h0 =>
    exact fun T => ⟨0, ⟨rfl, rfl, rfl, Nat.le_refl _, fun _ _ _ => rfl, fun _ _ _ _ => rfl⟩, fun c k hk => by simp, by simpa using HL.out.drw, HX.out, fun k _ h => (by cases h), fun k _ h => (by cases h)⟩
  case step =>
    rintro l T z ⟨p, hF⟩ i o hi ho hl hpr A hA hB K' hK
    have hi' : i < 9 := hi
    rcases (show i = 0 ∨ i = 1 ∨ i = 2 ∨ i = 3 ∨ i = 4 ∨ i = 5 ∨ i = 6 ∨ i = 7 ∨ i = 8 by omega) with rfl | rfl | rfl | rfl | rfl | rfl | rfl | rfl | rfl
    · obtain rfl := Option.some.inj (show some _ = some o from ho)
      dsimp only [List.getElem_toArray, List.getElem_cons_zero, List.getElem_cons_succ] at hK ⊢
      have h1 : A.tmps.getD 1 undef = .pointer (some ⟨BW + 1, 0, none⟩) := hB (1, .pointer (some ⟨BW + 1, 0, none⟩)) (by simp)
      have h2 : A.tmps.getD 2 undef = .pointer (some ⟨X, 0, none⟩) := hB (2, .pointer (some ⟨X, 0, none⟩)) (by simp)
      have c0 := hF.ly.p.cell 0
      simp only [List.getElem?_cons_zero] at c0
      clear hA hB
      go_simp
      exact hK _ _ ⟨p, by have h := hF.pure (i := 0) (by decide) (by decide); rwa [show PV 0 = .pointer (some ⟨BW, 0, none⟩) from by rw [HPV.out]; rfl] at h⟩
    · obtain rfl := Option.some.inj (show some _ = some o from ho)
      dsimp only [List.getElem_toArray, List.getElem_cons_zero, List.getElem_cons_succ] at hK ⊢
      have h1 : A.tmps.getD 1 undef = .pointer (some ⟨BW + 1, 0, none⟩) := hB (1, .pointer (some ⟨BW + 1, 0, none⟩)) (by simp)
      have h2 : A.tmps.getD 2 undef = .pointer (some ⟨X, 0, none⟩) := hB (2, .pointer (some ⟨X, 0, none⟩)) (by simp)
      clear hA hB
      go_simp
      exact hK _ _ ⟨p, by have h := hF.pure (i := 1) (by decide) (by decide); rwa [show PV 1 = .pointer (some ⟨X, 0, none⟩) from by rw [HPV.out]; rfl] at h⟩
    · obtain rfl := Option.some.inj (show some _ = some o from ho)
      dsimp only [List.getElem_toArray, List.getElem_cons_zero, List.getElem_cons_succ] at hK ⊢
      have g1 : A.tmps.getD 4 undef = .pointer (some ⟨X, 0, none⟩) := (hA 1 4 rfl).trans ((hF.ps 1 (by decide) (hpr 1 (by decide))).trans (by rw [HPV.out]; rfl))
      have h1 : A.tmps.getD 1 undef = .pointer (some ⟨BW + 1, 0, none⟩) := hB (1, .pointer (some ⟨BW + 1, 0, none⟩)) (by simp)
      have h2 : A.tmps.getD 2 undef = .pointer (some ⟨X, 0, none⟩) := hB (2, .pointer (some ⟨X, 0, none⟩)) (by simp)
      have f1 : A.tmps[4]?.getD undef = _ := (Array.getD_eq_getD_getElem? ..).symm.trans g1
      have c0 := hF.x.cell 0
      simp only [List.getElem?_cons_zero] at c0
      clear hA hB
      go_simp
      exact hK _ _ ⟨p, by have h := hF.pure (i := 2) (by decide) (by decide); rwa [show PV 2 = .string n from by rw [HPV.out]; rfl] at h⟩
    · obtain rfl := Option.some.inj (show some _ = some o from ho)
      dsimp only [List.getElem_toArray, List.getElem_cons_zero, List.getElem_cons_succ] at hK ⊢
      have g2 : A.tmps.getD 5 undef = .string n := (hA 2 5 rfl).trans ((hF.ps 2 (by decide) (hpr 2 (by decide))).trans (by rw [HPV.out]; rfl))
      have h1 : A.tmps.getD 1 undef = .pointer (some ⟨BW + 1, 0, none⟩) := hB (1, .pointer (some ⟨BW + 1, 0, none⟩)) (by simp)
      have h2 : A.tmps.getD 2 undef = .pointer (some ⟨X, 0, none⟩) := hB (2, .pointer (some ⟨X, 0, none⟩)) (by simp)
      have f2 : A.tmps[5]?.getD undef = _ := (Array.getD_eq_getD_getElem? ..).symm.trans g2
      clear hA hB
      go_simp
      exact hK _ _ ⟨p, by have h := hF.build (i := 3) (by decide) (by decide); rwa [show BV 3 = .string n from by rw [HBV.out]; rfl, show BT 3 = 9 from by rw [HBT.out]; rfl] at h⟩
    · obtain rfl := Option.some.inj (show some _ = some o from ho)
      dsimp only [List.getElem_toArray, List.getElem_cons_zero, List.getElem_cons_succ] at hK ⊢
      have g0 : A.tmps.getD 3 undef = .pointer (some ⟨BW, 0, none⟩) := (hA 0 3 rfl).trans ((hF.ps 0 (by decide) (hpr 0 (by decide))).trans (by rw [HPV.out]; rfl))
      obtain ⟨b3, gg3, hb3, hn3⟩ := hF.bs 3 (by decide) (hpr 3 (by decide))
      have g3 : A.tmps.getD 6 undef = .slice (some ⟨b3, 0, none⟩) 1 1 := (hA 3 6 rfl).trans gg3
      rw [HBV.out, HBT.out] at hb3
      have h1 : A.tmps.getD 1 undef = .pointer (some ⟨BW + 1, 0, none⟩) := hB (1, .pointer (some ⟨BW + 1, 0, none⟩)) (by simp)
      have h2 : A.tmps.getD 2 undef = .pointer (some ⟨X, 0, none⟩) := hB (2, .pointer (some ⟨X, 0, none⟩)) (by simp)
      have f0 : A.tmps[3]?.getD undef = _ := (Array.getD_eq_getD_getElem? ..).symm.trans g0
      have f3 : A.tmps[6]?.getD undef = _ := (Array.getD_eq_getD_getElem? ..).symm.trans g3
      obtain rfl : p = 0 := hF.at (c := 0) rfl hl (fun c' k' hc => by omega)
      clear hA hB
      have hly := hF.ly
      have HLY := Lib.hid hly
      have HT : Hid (PC.take 0 = []) := Lib.hid (by rw [HPC.out]; rfl)
      go_simp
      refine (ly_text n b3 1 HLY.out hb3 hn3 (by rw [HT.out]; simp; omega)).mono ?_
      rintro e z' ⟨rfl, hL, hk⟩
      go_simp
      exact hK _ _ ⟨0 + 1, by have h := hF.call (i := 4) rfl (by decide) (by decide) (pc := sB n) (by rw [HPC.out]; rfl) hL hk (by decide) hX HBT5.out; rwa [show PV 4 = .pointer (some ⟨BW, 0, none⟩) from by rw [HPV.out]; rfl] at h⟩
    · obtain rfl := Option.some.inj (show some _ = some o from ho)
      dsimp only [List.getElem_toArray, List.getElem_cons_zero, List.getElem_cons_succ] at hK ⊢
      have h1 : A.tmps.getD 1 undef = .pointer (some ⟨BW + 1, 0, none⟩) := hB (1, .pointer (some ⟨BW + 1, 0, none⟩)) (by simp)
      have h2 : A.tmps.getD 2 undef = .pointer (some ⟨X, 0, none⟩) := hB (2, .pointer (some ⟨X, 0, none⟩)) (by simp)
      clear hA hB
      go_simp
      exact hK _ _ ⟨p, by have h := hF.pure (i := 5) (by decide) (by decide); rwa [show PV 5 = .pointer (some ⟨X, 1, none⟩) from by rw [HPV.out]; rfl] at h⟩
    · obtain rfl := Option.some.inj (show some _ = some o from ho)
      dsimp only [List.getElem_toArray, List.getElem_cons_zero, List.getElem_cons_succ] at hK ⊢
      have g5 : A.tmps.getD 8 undef = .pointer (some ⟨X, 1, none⟩) := (hA 5 8 rfl).trans ((hF.ps 5 (by decide) (hpr 5 (by decide))).trans (by rw [HPV.out]; rfl))
      have h1 : A.tmps.getD 1 undef = .pointer (some ⟨BW + 1, 0, none⟩) := hB (1, .pointer (some ⟨BW + 1, 0, none⟩)) (by simp)
      have h2 : A.tmps.getD 2 undef = .pointer (some ⟨X, 0, none⟩) := hB (2, .pointer (some ⟨X, 0, none⟩)) (by simp)
      have f5 : A.tmps[8]?.getD undef = _ := (Array.getD_eq_getD_getElem? ..).symm.trans g5
      have c0 := hF.x.cell 1
      simp only [List.getElem?_cons_succ, List.getElem?_cons_zero] at c0
      clear hA hB
      go_simp
      exact hK _ _ ⟨p, by have h := hF.pure (i := 6) (by decide) (by decide); rwa [show PV 6 = .bool a from by rw [HPV.out]; rfl] at h⟩
    · obtain rfl := Option.some.inj (show some _ = some o from ho)
      dsimp only [List.getElem_toArray, List.getElem_cons_zero, List.getElem_cons_succ] at hK ⊢
      have g6 : A.tmps.getD 9 undef = .bool a := (hA 6 9 rfl).trans ((hF.ps 6 (by decide) (hpr 6 (by decide))).trans (by rw [HPV.out]; rfl))
      have h1 : A.tmps.getD 1 undef = .pointer (some ⟨BW + 1, 0, none⟩) := hB (1, .pointer (some ⟨BW + 1, 0, none⟩)) (by simp)
      have h2 : A.tmps.getD 2 undef = .pointer (some ⟨X, 0, none⟩) := hB (2, .pointer (some ⟨X, 0, none⟩)) (by simp)
      have f6 : A.tmps[9]?.getD undef = _ := (Array.getD_eq_getD_getElem? ..).symm.trans g6
      clear hA hB
      go_simp
      exact hK _ _ ⟨p, by have h := hF.build (i := 7) (by decide) (by decide); rwa [show BV 7 = .bool a from by rw [HBV.out]; rfl, show BT 7 = 4 from by rw [HBT.out]; rfl] at h⟩
    · obtain rfl := Option.some.inj (show some _ = some o from ho)
      dsimp only [List.getElem_toArray, List.getElem_cons_zero, List.getElem_cons_succ] at hK ⊢
      have g4 : A.tmps.getD 7 undef = .pointer (some ⟨BW, 0, none⟩) := (hA 4 7 rfl).trans ((hF.ps 4 (by decide) (hpr 4 (by decide))).trans (by rw [HPV.out]; rfl))
      obtain ⟨b7, gg7, hb7, hn7⟩ := hF.bs 7 (by decide) (hpr 7 (by decide))
      have g7 : A.tmps.getD 10 undef = .slice (some ⟨b7, 0, none⟩) 1 1 := (hA 7 10 rfl).trans gg7
      rw [HBV.out, HBT.out] at hb7
      have h1 : A.tmps.getD 1 undef = .pointer (some ⟨BW + 1, 0, none⟩) := hB (1, .pointer (some ⟨BW + 1, 0, none⟩)) (by simp)
      have h2 : A.tmps.getD 2 undef = .pointer (some ⟨X, 0, none⟩) := hB (2, .pointer (some ⟨X, 0, none⟩)) (by simp)
      have f4 : A.tmps[7]?.getD undef = _ := (Array.getD_eq_getD_getElem? ..).symm.trans g4
      have f7 : A.tmps[10]?.getD undef = _ := (Array.getD_eq_getD_getElem? ..).symm.trans g7
      obtain rfl : p = 1 := hF.at (c := 1) rfl hl (fun c' k' hc hk => by (obtain rfl : c' = 0 := (by omega)); (obtain rfl : 4 = k' := (by simpa using hk)); exact hpr 4 (by decide))
      clear hA hB
      have hly := hF.ly
      have HLY := Lib.hid hly
      have HT : Hid (PC.take 1 = [sB n]) := Lib.hid (by rw [HPC.out]; rfl)
      go_simp
      refine (ly_flag a b7 1 HLY.out hb7 hn7 (by rw [HT.out]; simp; omega)).mono ?_
      rintro e z' ⟨rfl, hL, hk⟩
      go_simp
      exact hK _ _ ⟨1 + 1, by have h := hF.call (i := 8) rfl (by decide) (by decide) (pc := [Pk.flagB a]) (by rw [HPC.out]; rfl) hL hk (by decide) hX HBT5.out; rwa [show PV 8 = .pointer (some ⟨BW, 0, none⟩) from by rw [HPV.out]; rfl] at h⟩
  case fin =>
    rintro l T z ⟨p, hF⟩ hall
    have h := hF.c 1 8 rfl
    rw [hall 8 (by show 8 < 9; omega)] at h
    have h1 : 1 < p := by simpa using h.symm
    have hQ : PC.take p = [sB n, [Pk.flagB a]] := by rw [List.take_of_length_le (by rw [HPC.out]; show 2 ≤ p; omega), HPC.out]
    have hly := hF.ly
    have hkp := hF.kp
    rw [hQ] at hly
    have hxb := hF.x
    have e1 : Q ++ [sB n, [Pk.flagB a]].flatten = Q ++ tyB ⟨n, a⟩ := by simp [tyB]
    rw [e1] at hly
    have HF := Lib.hid hly
    have HKP := Lib.hid (HK0.out.trans hkp)
    clear hly hxb hkp hF
    simp only [actA, setAll, List.setIfInBounds_toArray, List.set_cons_zero, List.set_cons_succ, Nat.zero_add, Nat.reduceAdd]
    go_wp2
    try go_end0
    exact ⟨rfl, HF.out, HKP.out⟩

end Go.Proofs.YtomlbfkkhhhfkaaDoor.Fc
