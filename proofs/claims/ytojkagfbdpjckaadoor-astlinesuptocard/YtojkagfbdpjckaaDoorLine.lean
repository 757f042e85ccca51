/-
  Statements, methods and classes as texts, and how many lines they have.
-/
import Derived.Test.YtojkagfbdpjckaaDoorStm
namespace Go.Proofs.YtojkagfbdpjckaaDoor

/-- A type's text. -/
def tyB (tn : ByteArray) (ta : Bool) : Bs := tn.data.toList ++ if ta then [91, 93] else []
def tabs (n : Nat) : Bs := List.replicate n 9
/-- A field's text, or a parameter's. -/
def vx (v : Vr) : Bs := tyB v.tn v.ta ++ ([32] ++ v.name.data.toList)
/-- A statement with blocks. -/
def blk (word : Bs) (ks : List Bs) (d n : Nat) (t e : Bs) : Bs := word ++ (nt ks 0 ++ ([32, 123, 10] ++ (t ++ ((if n = 0 then [] else tabs d ++ ([125, 32, 101, 108, 115, 101, 32, 123, 10] ++ e)) ++ (tabs d ++ [125, 10])))))
/-- A statement's text, behind its tabs, by the texts of what is in it. -/
def sxk (does : Int) (name tn : ByteArray) (ta : Bool) (ks : List Bs) (d n : Nat) (t e : Bs) : Bs :=
  if does = 1 then [108, 101, 116, 32] ++ (tyB tn ta ++ ([32] ++ (name.data.toList ++ ([32, 61, 32] ++ (nt ks 0 ++ [59, 10])))))
  else if does = 2 then nt ks 0 ++ ([32, 61, 32] ++ (nt ks 1 ++ [59, 10]))
  else if does = 4 then blk [105, 102, 32] ks d n t e
  else if does = 5 then blk [119, 104, 105, 108, 101, 32] ks d n t e
  else if does = 6 then [114, 101, 116, 117, 114, 110, 32] ++ (nt ks 0 ++ [59, 10])
  else if does = 7 then [112, 114, 105, 110, 116, 32] ++ (nt ks 0 ++ [59, 10])
  else nt ks 0 ++ [59, 10]
mutual
def sx : Nat → St → Bs
  | d, .mk does _ _ name tn ta e th el => tabs d ++ sxk does name tn ta (e.map tx) d el.length (sxs (d + 1) th) (sxs (d + 1) el)
def sxs : Nat → List St → Bs
  | _, [] => []
  | d, s :: r => sx d s ++ sxs d r
end
/-- A method's text. -/
def mx (m : Mt) : Bs := [9] ++ ((if m.static then [115, 116, 97, 116, 105, 99, 32] else []) ++ ([109, 101, 116, 104, 111, 100, 32] ++ (tyB m.rn m.ra ++ ([32] ++ (m.name.data.toList ++ (lst (m.params.map vx) ++ ([32, 123, 10] ++ (sxs 2 m.body ++ ([9] ++ [125, 10])))))))))
/-- A class's text. -/
def cx (name sup : ByteArray) (fs : List Vr) (ms : List Mt) : Bs := [99, 108, 97, 115, 115, 32] ++ (name.data.toList ++ ((if sup.size = 0 then [] else [32, 101, 120, 116, 101, 110, 100, 115, 32] ++ sup.data.toList) ++ ([32, 123, 10] ++ (fs.flatMap (fun f => [9, 102, 105, 101, 108, 100, 32] ++ (vx f ++ [59, 10])) ++ (ms.flatMap mx ++ [125, 10])))))

/-- How many lines end in a text. -/
def nls (l : Bs) : Nat := l.count 10
theorem nls_app (a b : Bs) : nls (a ++ b) = nls a + nls b := List.count_append
theorem nls_tabs (n : Nat) : nls (tabs n) = 0 := by
  unfold nls tabs
  rw [List.count_replicate]
  rfl
theorem nls_blk (word : Bs) (ks : List Bs) (d d' n : Nat) (t e t' e' : Bs) (ht : nls t = nls t') (he : nls e = nls e') : nls (blk word ks d n t e) = nls (blk word ks d' n t' e') := by
  unfold blk
  by_cases hn : n = 0
  · simp only [hn, if_true, nls_app, nls_tabs, ht]
  · simp only [hn, if_false, nls_app, nls_tabs, ht, he]
theorem nls_sxk (does : Int) (name tn : ByteArray) (ta : Bool) (ks : List Bs) (d d' n : Nat) (t e t' e' : Bs) (ht : nls t = nls t') (he : nls e = nls e') : nls (sxk does name tn ta ks d n t e) = nls (sxk does name tn ta ks d' n t' e') := by
  unfold sxk
  repeat' split
  all_goals first | rfl | exact nls_blk _ _ _ _ _ _ _ _ _ ht he
mutual
theorem nls_sx : ∀ (d d' : Nat) (s : St), nls (sx d s) = nls (sx d' s)
  | d, d', .mk does _ _ name tn ta e th el => by
    rw [sx, sx, nls_app, nls_app, nls_tabs, nls_tabs, nls_sxk does name tn ta (e.map tx) d d' el.length _ _ _ _ (nls_sxs (d + 1) (d' + 1) th) (nls_sxs (d + 1) (d' + 1) el)]
theorem nls_sxs : ∀ (d d' : Nat) (l : List St), nls (sxs d l) = nls (sxs d' l)
  | _, _, [] => rfl
  | d, d', s :: r => by rw [sxs, sxs, nls_app, nls_app, nls_sx d d' s, nls_sxs d d' r]
end
theorem nls_ty (tn : ByteArray) (ta : Bool) (h : nls tn.data.toList = 0) : nls (tyB tn ta) = 0 := by
  unfold tyB
  cases ta <;> simp only [nls_app, h] <;> rfl
theorem nls_vx (v : Vr) (h : nls (v.name.data.toList ++ v.tn.data.toList) = 0) : nls (vx v) = 0 := by
  rw [nls_app] at h
  have h1 := nls_ty v.tn v.ta (by omega)
  unfold vx
  rw [nls_app, nls_app, h1]
  have : nls [32] = 0 := rfl
  omega
/-- The names of members, one behind the other. -/
def vn (vs : List Vr) : Bs := vs.flatMap (fun v => v.name.data.toList ++ v.tn.data.toList)
def mn (m : Mt) : Bs := m.name.data.toList ++ (m.rn.data.toList ++ vn m.params)
theorem nls_flat_nil {α : Type} (f : α → Bs) : ∀ (l : List α), (∀ x ∈ l, nls (f x) = 0) → nls (l.flatMap f) = 0
  | [], _ => rfl
  | a :: r, h => by rw [List.flatMap_cons, nls_app, h a (by simp), nls_flat_nil f r (fun x hx => h x (by simp [hx]))]
theorem nls_flat_mem {α : Type} (f : α → Bs) : ∀ (l : List α), nls (l.flatMap f) = 0 → ∀ x ∈ l, nls (f x) = 0
  | [], _, x, hx => by simp at hx
  | a :: r, h, x, hx => by
    rw [List.flatMap_cons, nls_app] at h
    rcases List.mem_cons.1 hx with rfl | hx
    · omega
    · exact nls_flat_mem f r (by omega) x hx
theorem nls_cm : ∀ (l : List Bs), (∀ x ∈ l, nls x = 0) → nls (cm l) = 0
  | [], _ => rfl
  | a :: r, h => by
    rw [cm, nls_app, h a (by simp), nls_flat_nil _ r (fun x hx => by rw [nls_app, h x (by simp [hx])]; rfl)]
theorem nls_lst (l : List Bs) (h : ∀ x ∈ l, nls x = 0) : nls (lst l) = 0 := by
  unfold lst
  rw [nls_app, nls_app, nls_cm l h]
  rfl
theorem nls_mx (m : Mt) (h : nls (mn m) = 0) : nls (mx m) = 2 + nls (sxs 2 m.body) := by
  unfold mn at h
  rw [nls_app, nls_app] at h
  have h1 := nls_ty m.rn m.ra (by omega)
  have h2 := nls_lst (m.params.map vx) (fun x hx => by
    obtain ⟨v, hv, rfl⟩ := List.mem_map.1 hx
    exact nls_vx v (nls_flat_mem (fun v : Vr => v.name.data.toList ++ v.tn.data.toList) m.params (by unfold vn at h; omega) v hv))
  have h3 : nls m.name.data.toList = 0 := by omega
  unfold mx
  have h4 : nls (if m.static then [115, 116, 97, 116, 105, 99, 32] else []) = 0 := by cases m.static <;> rfl
  simp only [nls_app, h1, h2, h3, h4]
  have e1 : nls [9] = 0 := rfl
  have e2 : nls [109, 101, 116, 104, 111, 100, 32] = 0 := rfl
  have e3 : nls [32] = 0 := rfl
  have e4 : nls [32, 123, 10] = 1 := rfl
  have e5 : nls [125, 10] = 1 := rfl
  omega
/-- How many lines a class has. -/
def lines (fs : List Vr) (ms : List Mt) : Nat := 2 + fs.length + (ms.map (fun m => 2 + (m.body.map (fun s => nls (sx 3 s))).sum)).sum
theorem nls_sxs_sum : ∀ (l : List St), nls (sxs 2 l) = (l.map (fun s => nls (sx 3 s))).sum
  | [] => rfl
  | s :: r => by rw [sxs, nls_app, nls_sxs_sum r, List.map_cons, List.sum_cons, nls_sx 2 3 s]
theorem nls_fields : ∀ (fs : List Vr), nls (vn fs) = 0 → nls (fs.flatMap (fun f => [9, 102, 105, 101, 108, 100, 32] ++ (vx f ++ [59, 10]))) = fs.length
  | [], _ => rfl
  | f :: r, h => by
    unfold vn at h
    rw [List.flatMap_cons, nls_app] at h
    have h1 := nls_vx f (by omega)
    have h2 := nls_fields r (by unfold vn; omega)
    rw [List.flatMap_cons, nls_app, h2, nls_app, nls_app, h1, List.length_cons]
    have e1 : nls [9, 102, 105, 101, 108, 100, 32] = 0 := rfl
    have e2 : nls [59, 10] = 1 := rfl
    omega
theorem nls_methods : ∀ (ms : List Mt), nls (ms.flatMap mn) = 0 → nls (ms.flatMap mx) = (ms.map (fun m => 2 + (m.body.map (fun s => nls (sx 3 s))).sum)).sum
  | [], _ => rfl
  | m :: r, h => by
    rw [List.flatMap_cons, nls_app] at h
    rw [List.flatMap_cons, nls_app, nls_mx m (by omega), nls_methods r (by omega), nls_sxs_sum, List.map_cons, List.sum_cons]
/-- A class whose names hold no end of a line has so many lines. -/
theorem nls_cx (name sup : ByteArray) (fs : List Vr) (ms : List Mt) (h : nls (name.data.toList ++ (sup.data.toList ++ (vn fs ++ ms.flatMap mn))) = 0) : nls (cx name sup fs ms) = lines fs ms := by
  simp only [nls_app] at h
  have h1 := nls_fields fs (by omega)
  have h2 := nls_methods ms (by omega)
  have h3 : nls (if sup.size = 0 then [] else [32, 101, 120, 116, 101, 110, 100, 115, 32] ++ sup.data.toList) = 0 := by
    split
    · rfl
    · rw [nls_app]
      have e1 : nls [32, 101, 120, 116, 101, 110, 100, 115, 32] = 0 := rfl
      omega
  unfold cx lines
  simp only [nls_app, h1, h2, h3]
  have e1 : nls [99, 108, 97, 115, 115, 32] = 0 := rfl
  have e2 : nls [32, 123, 10] = 1 := rfl
  have e3 : nls [125, 10] = 1 := rfl
  omega
end Go.Proofs.YtojkagfbdpjckaaDoor
