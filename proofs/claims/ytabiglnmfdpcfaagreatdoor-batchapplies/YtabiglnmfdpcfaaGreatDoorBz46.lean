/- What PutMap's walk keeps: a store beside a variable of its own. -/
import Derived.Test.YtabiglnmfdpcfaaGreatDoorBz01
import Derived.Test.YtabiglnmfdpcfaaGreatDoorBz42
import Derived.Test.YtabiglnmfdpcfaaGreatDoorBz45
import Derived.Test.YtabiglnmfdpcfaaGreatDoorBz40
import Derived.Test.YtabiglnmfdpcfaaGreatDoorBz41
import Derived.Test.YtabiglnmfdpcfaaGreatDoorBz02
namespace Go.Proofs.YtabiglnmfdpcfaaGreatDoor
variable {E es:List Ent}
variable {R g gs n o x:Nat}
variable {S:List Nat}
variable {v:Value}
variable {w w' w1:World}
set_option maxRecDepth 20000
open Go.RowKit

def Hy (w1 w:World) (g gs R bt:Nat) (D:Lq) (cs:Lz) (fr:List Nat):Prop:=
  (∃vp vf,Stm w g gs vp vf R cs fr∧(∀k∈stB g gs vp vf cs,w1.heap.size≤k∧k≠bt))∧Kb w1 w∧Blk w bt 39 (B D)∧w1.heap.size≤bt∧Wf cs []

section
variable {w1 w w':World} {g gs R bt:Nat} {D:Lq} {cs:Lz} {fr:List Nat}
end

structure Mp (cs:Lz) (k:Nat) (its:List It) (root:Nat) (T:Tre) (kept:Nat) (D:Lq):Prop where
  rt:Rt cs root T
  ents:T.ents.Perm (its.map (·.1))
  own:∀i,own cs [] i≤2 * k
  noc:noc cs≤257 * k
  held:kept=0∨(1≤kept∧1+(if root=kept then 1 else 0)≤Go.Proofs.YtabiglnmfdpcfaaGreatDoor.own cs [] (kept-1)∧∃X,IsT cs kept X∧((sdC cs kept).kind=2→(sdC cs kept).dp=0)∧D=Go.Proofs.YtabiglnmfdpcfaaGreatDoor.rt 256 0 X.ents)

end Go.Proofs.YtabiglnmfdpcfaaGreatDoor

namespace Go.Proofs.YtabiglnmfdpcfaaGreatDoor
variable {E es:List Ent}
variable {R g gs n o x:Nat}
variable {S:List Nat}
variable {v:Value}
variable {w w' w1:World}
set_option maxRecDepth 20000
open Go.RowKit

def Ax (w1 w:World) (g gs R bt:Nat) (D:Lq) (k:Nat) (its:List It) (top kept lim:Nat):Prop:=∃cs fr T,Hy w1 w g gs R bt D cs fr∧Mp cs k its top T kept D∧noc cs≤lim∧1≤top∧1≤own cs [] (top-1)
section
variable {w1 w:World} {g gs R bt:Nat} {D:Lq} {k:Nat} {its:List It} {top kept lim:Nat}
end

end Go.Proofs.YtabiglnmfdpcfaaGreatDoor

namespace Go.Proofs.YtabiglnmfdpcfaaGreatDoor
variable {E es:List Ent}
variable {R g gs n o x:Nat}
variable {S:List Nat}
variable {v:Value}
variable {w w' w1:World}
set_option maxRecDepth 20000
open Go.RowKit

structure Mq (w w1:World) (v:Value) (V:Nat→Value) (E:List Ent):Prop where
  pr:PrAt w1 v V E
  len:E.length≤10
  small:∀e∈E,e.2.length≤1024
  rise:E.Pairwise fun a b=>Ahead a.1 b.1
  bel:Kb w w1
theorem rise_entW {rs:List Wt} (h:Ris rs):(entW rs).Pairwise fun a b=>Ahead a.1 b.1:=List.pairwise_map.2 (List.Pairwise.filter _ h)
theorem rise_ne (h:E.Pairwise fun a b=>Ahead a.1 b.1):E.Pairwise fun a b=>a.1≠b.1:=List.Pairwise.imp (fun {a b} q e=>by rw [e] at q;exact q.ne) h
theorem mq_of {e:Ending} (h:MpPost w e w1):∃v V E,e=.returned v∧Mq w w1 v V E:=by
  obtain ⟨v,rs,rfl,hr,own,rd,few,sm,bel⟩:=h;have hp:=prAt_its own rd;rw [itsOf_ent] at hp;refine ⟨v,_,entW rs,rfl,hp,?_,sm,rise_entW hr,bel⟩;unfold entW;rw [List.length_map];exact Nat.le_trans (List.length_filter_le _ _) few
theorem Mq.tpre {V:Nat→Value} (h:Mq w w1 v V E):TPre 0 E:=⟨rise_ne h.rise,fun _ _ _ _ j hj=>by omega,h.pr.keys⟩

theorem tooL_nrm (x:Wt):tooL (nrm x)=tooL x:=by
  unfold tooL nrm;cases x.g <;> simp
theorem any_tooL {l m:List Wt} (h:l.map nrm=m.map nrm):l.any tooL=m.any tooL:=by
  have e:∀l:List Wt,(l.map nrm).any tooL=l.any tooL:=fun l=>by
    rw [List.any_map];congr 1
    funext x
    exact tooL_nrm x
  rw [← e l,h,e m]

structure OvF (E:List Ent) (ks:List Wt) (F:List Ent):Prop where
  perm:F.Perm (ovE E ks)
  rise:F.Pairwise fun a b=>Ahead a.1 b.1
  small:∀e∈F,e.2.length≤1024
theorem ovF_of {ls qs ks rs:List Wt} (hE:E.Pairwise fun a b=>Ahead a.1 b.1) (hs:∀e∈E,e.2.length≤1024) (hk:Lat qs ks) (e:qs.map nrm=ls.map nrm) (hl:ls.any tooL=false) (h:Lat ((wes E++ls).map nrm) (rs.map nrm)):OvF E ks (entW rs):=by
  have h2:Lat ((wes E++qs).map nrm) (rs.map nrm):=by rw [List.map_append,e,← List.map_append];exact h
  have hris:Ris rs:=by
    have:=List.pairwise_map.1 h.ris;exact this
  refine ⟨ov_ents (rise_ne hE) hk h2,rise_entW hris,fun x hx=>?_⟩;obtain ⟨y,h3,h4,rfl⟩:=(entW_last h).1 hx;rcases List.mem_append.1 h3.mem with q | q
  · obtain ⟨z,hz,rfl⟩:=List.mem_map.1 q
    exact hs z hz
  · have:=List.any_eq_false.1 hl y q
    simp only [tooL,h4,Bool.not_false,Bool.true_and,decide_eq_true_eq] at this;show y.b.length≤1024;omega

theorem root_of4 (hl:es.length≤4096) (hv:∀e∈es,e.2.length≤1024) (ha:es.Pairwise fun a b=>a.1≠b.1) {h:Lq} {E:Int} (p:RootIs es 0 h E):h=rt 256 0 es∧E=0:=by
  have he:errB es=0:=by
    unfold errB;rw [if_neg (by omega)];exact lsE_of [] es hv ha (fun _ _ h=>by cases h)
  cases p with
  | out q=>omega
  | bad _ _ _ q1 q2=>exact absurd (q1.symm.trans he) q2
  | part _ _ q1 q2=>exact absurd (fun _ _ _ _ j hj=>by simp at hj) q2
  | good _ _ q1 q2=>exact ⟨by simp,rfl⟩
theorem rt_len (hl:es.length≤4096) (hv:∀e∈es,e.2.length≤1024) (ha:es.Pairwise fun a b=>a.1≠b.1):(rt 256 0 es).length=32:=by
  obtain ⟨hh,E0,hri⟩:=rootIs_ex es 0;obtain ⟨e1,_⟩:=root_of4 hl hv ha hri;rw [← e1];exact hri.len

theorem lentWr_kq {z:World} {G:Nat→Nat} {ls:List Wt} (h:LentWr w g n G ls) (m:Mod S w z) (hg:g ∉ S) (hG:∀i,i<n→G i ∉ S):LentWr z g n G ls:=by
  refine ⟨fun i hi j u hu=>?_,fun i hi=>(h.row i hi).of_block (m.block _ (h.row i hi).lt (hG i hi))⟩;have h1:=h.pair i hi j u hu;have hb:=m.block g (block_lt_of_cell h1) hg;unfold World.cell? at h1 ⊢;rw [hb];exact h1

theorem lat_len {l m ks rs:List Wt} (h:Lat l ks) (e:l.map nrm=m.map nrm) (k:Lat (m.map nrm) (rs.map nrm)):rs.length=ks.length:=by
  have h1:=h.nm;rw [e] at h1;have:=congrArg List.length (h1.one k);simpa using this.symm
theorem Bq.swap {rs:List (Nat×List Ent)} {P:World→Prop} {F:List Ent} (h:Bq w1 w g gs R ((x,E)::rs) o P) (p:F.Perm E):Bq w1 w g gs R ((x,F)::rs) o P:=by
  obtain ⟨S,cs,fr,h1,h2,h3,h4,h5,h6⟩:=h;refine ⟨S,cs,fr,h1,h2,h3,⟨h4.hold,fun r hr=>?_,fun r hr=>?_⟩,h5,h6⟩
  · rcases List.mem_cons.1 hr with rfl | hr
    · obtain ⟨T,q1,q2⟩:=h4.tree _ (List.mem_cons_self (a:=(x,E)) (l:=rs))
      exact ⟨T,q1,q2.trans p.symm⟩
    · exact h4.tree r (List.mem_cons_of_mem _ hr)
  · rcases List.mem_cons.1 hr with rfl | hr
    · exact h4.dp (x,E) List.mem_cons_self
    · exact h4.dp r (List.mem_cons_of_mem _ hr)
theorem bq_var {rs:List (Nat×List Ent)} {P:World→Prop} (h:Bq w1 w g gs R rs o P) (hb:Kb w w') {b:Nat} {t:TypeId} {cs:Array Value} (hB:Blk w' b t cs) (hn:w.heap.size≤b):∃P':World→Prop,(∀z,P' z→P z∧Blk z b t cs)∧Bq w1 w' g gs R rs o P':=
  ⟨_,fun z q=>q,h.add (Q:=fun z=>Blk z b t cs) hb fun S hS=>Kq.blk hB fun q=>by have:=hS b q;omega⟩
theorem bq_lent {rs:List (Nat×List Ent)} {P:World→Prop} (h:Bq w1 w g gs R rs o P) (hb:Kb w w') {b n:Nat} {G:Nat→Nat} {ls:List Wt} (hB:LentWr w' b n G ls) (hn:w.heap.size≤b) (hG:∀i,i<n→w.heap.size≤G i):∃P':World→Prop,(∀z,P' z→P z∧LentWr z b n G ls)∧Bq w1 w' g gs R rs o P':=
  ⟨_,fun z q=>q,h.add (Q:=fun z=>LentWr z b n G ls) hb fun S hS z m=>lentWr_kq hB m (fun q=>by have:=hS b q;omega) fun i hi q=>by have:=hS _ q;have:=hG i hi;omega⟩
theorem any_take2 (ls:List Wt) (k:Nat) (hk:k<ls.length):(ls.take (k+1)).any tooL=((ls.take k).any tooL || tooL ls[k]!):=by
  rw [List.take_succ_eq_append_getElem hk,List.any_append,getElem!_pos ls k hk];simp

end Go.Proofs.YtabiglnmfdpcfaaGreatDoor

namespace Go.Proofs.YtabiglnmfdpcfaaGreatDoor
variable {E es:List Ent}
variable {R g gs n o x:Nat}
variable {S:List Nat}
variable {v:Value}
variable {w w' w1:World}
set_option maxRecDepth 20000
open Go.RowKit

def PutPost (n:Int) (zs:Lq) (w:World) (e:Ending) (w':World):Prop:=∃v sp,e=.returned (.tuple #[v,.int .i64 n])∧Own w.heap.size w' v zs sp∧Kb w w'

theorem tmod_mod (x n:Int):x.tmod n % n=x % n:=by
  have h:=Int.mul_tdiv_add_tmod x n
  conv=>rhs;rw [← h]
  rw [Int.add_comm,Int.add_mul_emod_self_left]

theorem tmod_neg (x n:Int) (hn:0<n) (h:x.tmod n<0):x.tmod n+n=x % n:=by
  rw [← tmod_mod x n];have h1:=Int.lt_tmod_of_pos x hn;rw [← Int.add_emod_right,Int.emod_eq_of_lt (by omega) (by omega)]

theorem tmod_pos (x n:Int) (hn:0<n) (h: ¬x.tmod n<0):x.tmod n=x % n:=by
  rw [← tmod_mod x n];have h1:=Int.tmod_lt_of_pos x hn;rw [Int.emod_eq_of_lt (by omega) h1]

set_option maxHeartbeats 400000 in
theorem pick_any (x n:Int) (w:World) (hn:0<n) (hm:n≤9223372036854775807):Kc 6 #[.int .i64 x,.int .i64 n] w fun e w'=>e=.returned (.int .i64 (x % n))∧w'=w:=by
  go_enter Tryz.func6,Tryz.ntmps6
  go_wp2
  · have e:=tmod_neg x n hn (by omega)
    have hb:=Int.emod_lt_of_pos x hn;have hc:=Int.emod_nonneg x (show n≠0 by omega);go_ret;refine ⟨?_,rfl⟩;show Ending.returned (.int .i64 (wrap64 (x.tmod n+n)))=_;rw [e,Go.IntWalk.wrap64_in _ (by omega)]
  · have e:=tmod_pos x n hn (by omega)
    go_ret;refine ⟨?_,rfl⟩;show Ending.returned (.int .i64 (x.tmod n))=_;rw [e]

end Go.Proofs.YtabiglnmfdpcfaaGreatDoor
