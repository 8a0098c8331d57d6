/- Plain facts of FnWal: a log that is cut holds records that were written first; what is put behind a trimmed log is read. No conditions. -/
import Derived.Test.YtdpjlfgfacjfeaaDoorWn
namespace Go.Proofs.YtdpjlfgfacjfeaaDoor
open Num
set_option linter.unusedVariables false
theorem holds_pre : ∀ {ms ts : List ByteArray} {l : List UInt8}, Holds l ts → Fits ms → cat ms <+: l → ms <+: ts
  | [], ts, _, _, _, _ => List.nil_prefix
  | m :: ms, ts, l, h, hf, ⟨r, hr⟩ => by
    have hm : rdy l = some m := rdy_of (hf m (by simp)) ⟨cat ms ++ r, by rw [← hr]; simp [cat]⟩
    cases ts with
    | nil =>
      obtain ⟨_, q, h1, h2⟩ := h
      have h1' : l = q := h1
      rw [h1', h2] at hm
      cases hm
    | cons t ts =>
      obtain ⟨hg, q, h1, h2⟩ := h
      have ht : rdy l = some t := rdy_of (hg t (by simp)) ⟨cat ts ++ q, by rw [h1]; simp [cat]⟩
      rw [hm] at ht
      injection ht with ht
      subst ht
      have hc : cat ms ++ r = cat ts ++ q := by
        have := hr.trans h1
        simp only [cat, List.append_assoc] at this
        exact List.append_cancel_left this
      obtain ⟨u, hu⟩ := holds_pre (ms := ms) (ts := ts) (l := cat ts ++ q) ⟨fun x hx => hg x (by simp [hx]), q, rfl, h2⟩ (fun x hx => hf x (by simp [hx])) ⟨r, hc⟩
      exact ⟨u, by simp [hu]⟩
theorem rdy_nil : rdy [] = none := rfl
theorem holds_cat {ts : List ByteArray} (h : Fits ts) : Holds (cat ts) ts := ⟨h, [], by simp, rdy_nil⟩
theorem fits_snoc {ts : List ByteArray} {t : ByteArray} (h : Fits ts) (ht : t.size ≤ 60) : Fits (ts ++ [t]) := fun x hx => by
  rcases List.mem_append.1 hx with hx | hx
  · exact h x hx
  · rw [List.mem_singleton.1 hx]; exact ht
theorem ext_ext (s : ByteArray) (a b : Nat) (h : b ≤ a) : (s.extract 0 a).extract 0 b = s.extract 0 b := by
  refine list_inj ?_
  rw [take_ext, take_ext, take_ext]
  simp [List.take_take, Nat.min_eq_left h]
/-- A log of records, cut: it holds the first ones; trimmed, it is these alone. -/
theorem cut_log {s : ByteArray} {ts ms : List ByteArray} {k : Nat} (hs : s.data.toList = cat ts) (hf : Fits ts) (hk : k ≤ s.size) (hm : Holds (s.extract 0 k).data.toList ms) :
    ms = ts.take ms.length ∧ ms.length ≤ ts.length ∧ (cat ms).length ≤ k ∧ (s.extract 0 k).extract 0 (cat ms).length = s.extract 0 (cat ms).length ∧ (s.extract 0 (cat ms).length).data.toList = cat ms := by
  have hp : (s.extract 0 k).data.toList <+: s.data.toList := by
    rw [take_ext]; simp only [List.drop_zero, Nat.sub_zero]; exact List.take_prefix _ _
  have hle := hm.le ms.length
  rw [atE_full, len_toList, ByteArray.size_extract] at hle
  have hck : (cat ms).length ≤ k := by omega
  have hcm : cat ms <+: (s.extract 0 k).data.toList := by
    obtain ⟨_, r, h1, _⟩ := hm
    exact ⟨r, h1.symm⟩
  have hcs : cat ms <+: s.data.toList := hcm.trans hp
  have hpre : ms <+: ts := holds_pre (l := cat ts) (holds_cat hf) hm.fits (by rw [← hs]; exact hcs)
  refine ⟨List.prefix_iff_eq_take.1 hpre, hpre.length_le, hck, ext_ext s k _ hck, ?_⟩
  rw [take_ext]
  simp only [List.drop_zero, Nat.sub_zero]
  exact (List.prefix_iff_eq_take.1 hcs).symm
theorem cat_snoc (ts : List ByteArray) (t : ByteArray) : cat (ts ++ [t]) = cat ts ++ (rcd t).data.toList := by rw [cat_append, cat_one]
theorem put_behind {x t : ByteArray} {ts : List ByteArray} (hx : x.data.toList = cat ts) (hf : Fits ts) (ht : t.size ≤ 60) : (x ++ rcd t).data.toList = cat (ts ++ [t]) ∧ Fits (ts ++ [t]) := by
  rw [list_append, hx, cat_snoc]
  exact ⟨rfl, fits_snoc hf ht⟩
end Go.Proofs.YtdpjlfgfacjfeaaDoor
