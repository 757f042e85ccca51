/-
  The numbers of statements that lie in memory are numbers of 64 bits.
-/
import Derived.Test.YtojkagfbdpjckaaDoorLnK
namespace Go.Proofs.YtojkagfbdpjckaaDoor
open Go.RowKit

theorem Sl.mem_all {α : Type} {W : World} {n : Nat} {R : α → List Value → Prop} {xs : List α} {v : Value} (h : Sl W n R xs v) (P : α → Prop) (hP : ∀ x cs, R x cs → P x) : ∀ x ∈ xs, P x := by
  intro x hx
  obtain ⟨a, cap, e, hl, hc, hk⟩ := h
  obtain ⟨i, hi⟩ := List.mem_iff_getElem?.1 hx
  obtain ⟨b, o, cs, _, _, hr⟩ := hk i x hi
  exact hP x cs hr
theorem okSs_of : ∀ ss : List St, (∀ s ∈ ss, okS s) → okSs ss
  | [], _ => by rw [okSs]; trivial
  | s :: r, h => by rw [okSs]; exact ⟨h s (by simp), okSs_of r (fun x hx => h x (by simp [hx]))⟩
theorem StR.okS {W : World} : ∀ {d : Nat} {s : St} {cs : List Value}, StR W d s cs → okS s
  | 0, _, _, h => h.elim
  | d + 1, .mk does ln co name tn ta e th el, _, h => by
    obtain ⟨ev, tv, lv, _, h1, h2, h3⟩ := h
    rw [Go.Proofs.YtojkagfbdpjckaaDoor.okS]
    exact ⟨(okss_iff e).2 (h1.mem_all oks (fun t cs h => h.elim fun kk hk => hk.2.oks)), okSs_of th (h2.mem_all _ (fun s cs h => StR.okS (d := d) h)), okSs_of el (h3.mem_all _ (fun s cs h => StR.okS (d := d) h))⟩
theorem MtR.okSs {W : World} {m : Mt} {cs : List Value} (h : MtR W m cs) : okSs m.body := by
  obtain ⟨pv, bv, _, _, d, h2⟩ := h
  exact okSs_of m.body (h2.mem_all _ (fun s cs h => h.okS))
theorem Sl.okSs {W : World} {ms : List Mt} {v : Value} (h : Sl W 8 (MtR W) ms v) : ∀ m ∈ ms, Go.Proofs.YtojkagfbdpjckaaDoor.okSs m.body := h.mem_all _ (fun _ _ h => h.okSs)
end Go.Proofs.YtojkagfbdpjckaaDoor
