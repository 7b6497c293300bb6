/- Entries in lists of the call's own, appended one by one; parts of an entry in memory. -/
import Derived.Test.YtabiglnmfdpcfaaGreatDoorBz01
import Derived.Test.YtabiglnmfdpcfaaGreatDoorBz32
import Derived.Great.BuildSlice
import Derived.Laws.AppendOwn
import Derived.Test.YtabiglnmfdpcfaaGreatDoorBz20
import Derived.Test.YtabiglnmfdpcfaaGreatDoorBz26
import Derived.WalkMore
namespace Go.Proofs.YtabiglnmfdpcfaaGreatDoor
variable {E:List Ent}
variable {base g n n' o:Nat}
variable {v v':Value}
variable {w w' wb:World}
variable {xs xs':List Value}
variable {zs:Lq}
set_option maxRecDepth 20000
open Go.RowKit

theorem rng_key {k:Lq} (h:w.rangeAt g o (encP k v)):w.rangeAt g o (B k).toList:=by
  intro j u hu;rw [B_toList] at hu;have hj:j<(k.map (Value.int .u8)).length:=(List.getElem?_eq_some_iff.1 hu).1;refine h j u ?_;unfold encP;rw [List.getElem?_append_left hj];exact hu
theorem rng_val {k:Lq} (h:w.rangeAt g o (encP k v)) (hk:k.length=32):w.cell? ⟨g,o+32,none⟩=some v:=by
  refine h 32 v ?_;unfold encP;rw [List.getElem?_append_right (by simp [hk])];simp [hk]

def flatP (its:List (Ent×Value)):List Value:=its.flatMap fun p=>encP p.1.1 p.2
theorem flatP_snoc (its:List (Ent×Value)) (p:Ent×Value):flatP (its++[p])=flatP its++encP p.1.1 p.2:=by simp [flatP]
theorem flatP_at:∀(its:List (Ent×Value)),(∀p∈its,p.1.1.length=32)→∀(i:Nat) (hi:i<its.length) (j:Nat) (v:Value),(encP its[i].1.1 its[i].2)[j]?=some v→(flatP its)[i * 33+j]?=some v
  | [],_,i,hi,_,_,_=>by simp at hi
  | p::r,hl,0,_,j,v,h=>by
    have h:(encP p.1.1 p.2)[j]?=some v:=h;have hj:=(List.getElem?_eq_some_iff.1 h).1;simp only [flatP,List.flatMap_cons,Nat.zero_mul,Nat.zero_add];rw [List.getElem?_append_left hj];exact h
  | p::r,hl,i+1,hi,j,v,h=>by
    have ih:=flatP_at r (fun q hq=>hl q (by simp [hq])) i (by simpa using hi) j v (by simpa using h);have e1:(encP p.1.1 p.2).length=33:=encP_length _ _ (hl p (by simp));simp only [flatP,List.flatMap_cons];rw [List.getElem?_append_right (by omega),show (i+1) * 33+j-(encP p.1.1 p.2).length=i * 33+j by omega];exact ih

theorem info_pair:∃i z,Tryz.prog.info? 62=some i∧i.zero=some z∧i.size=33∧i.bytes=56∧z.cells.size=33:=⟨_,_,rfl,rfl,rfl,rfl,rfl⟩

theorem wpList_bsp {ops:Array Oper} {rest:List Oper} {op:Oper} {a:Act} {Q:Exit→Act→World→Prop} (w:World) (hgd:op.guard=none) (x:Operand) (ho:op.op=.buildSlice 22 1 #[(0,x)])
    (k:Lq) (v:Value) (hx:a.eval x=.agg (encP k v).toArray) (hl:k.length=32)
    (hk:wpList Tryz.prog ops Q rest (a.put op.dst (.slice (some ⟨w.heap.size,0,none⟩) 1 1)) (w.alloc (.cells (encP k v).toArray 62))):wpList Tryz.prog ops Q (op::rest) a w:=by
  refine wpList_plain hgd fun K hK=>?_
  obtain ⟨i,z,hi,hz,hs,_,hzs⟩:=info_pair;have hrun:=run_buildSlice (P:=Tryz.prog) w 22 62 1 #[(0,.agg (encP k v).toArray)] (encP k v).toArray i z Tryz.underlying22 hi hz (by rw [hs];omega) (by rw [hs];omega) (by
    rw [hs];obtain ⟨zs,hzz,hzl⟩:∃zs:List Value,(Array.range (1 * 33)).map (z.cells[· % z.cells.size]!)=zs.toArray∧zs.length=33:=⟨_,(Array.toArray_toList).symm,by simp⟩;rw [hzz];have:=fill_one (fun i=>some (i * 33,33)) 0 0 33 (.agg (encP k v).toArray) (encP k v) zs [] rfl rfl (encP_length k v hl) (by omega);rw [show (#[(0,Value.agg (encP k v).toArray)]:Array (Nat×Value)).toList=[(0,Value.agg (encP k v).toArray)] from rfl,this,Instr.fill];simp [hzl])
  unfold Oper.wp execOp;simp only [ho,List.map_toArray,List.map_cons,List.map_nil,hx,Sem.run_bind,hrun,Result.andThen_ok,Sem.run_pure];exact hK _ _ hk

theorem wpList_appP {ops:Array Oper} {rest:List Oper} {o:Oper} {a:Act} {Q:Exit→Act→World→Prop} (w:World) (hgd:o.guard=none) (s x:Operand)
    (hop:o.op=.call { callee:=.builtin .append,args:= #[s,x],argTypes:= #[22,22]})
    (base:Nat) (v:Value) (n:Nat) (xs:List Value) (hown:w.ownsRow base 62 33 v n xs) (hs:a.eval s=v) (g:Nat) (k:Lq) (u:Value) (hx:a.eval x=.slice (some ⟨g,0,none⟩) 1 1)
    (hb:Blk w g 62 (encP k u).toArray) (hl:k.length=32) (h1:u.oneCell'=true) (hn:n≤4096) (hbase:base≤w.heap.size)
    (h:∀v' w',w'.ownsRow base 62 33 v' (n+1) (xs++encP k u)→w.grownBy w' v.ownBlock→wpList Tryz.prog ops Q rest (a.put o.dst v') w'):
    wpList Tryz.prog ops Q (o::rest) a w:=by
  obtain ⟨i,z,hi,hz,hsz,hby,hzs⟩:=info_pair;refine wpList_append_own w hgd s x _ hop base _ i z 33 56 Tryz.underlying22 hi hz hsz hby hzs (by omega) v n xs hs hown ⟨g,0,none⟩ 1 1 (encP k u) hx (by rw [encP_length k u hl]) ?_ ?_ (by simp only [maxLen];omega) (by omega) hbase (fun v' w' h1 h2 _=>h v' w' h1 h2)
  · intro j q hq
    rw [Addr.add_lit,Nat.zero_add,hb.cell];simpa using hq
  · intro q hq
    unfold encP at hq;rcases List.mem_append.1 hq with hq | hq
    · obtain ⟨z,_,rfl⟩:=List.mem_map.1 hq
      rfl
    · obtain rfl:q=u:=by simpa using hq
      exact h1

theorem ownsP_below (h:w.ownsRow base 62 33 v n xs) (hb:Kb w w'):w'.ownsRow base 62 33 v n xs:=by
  refine ⟨h.1,?_⟩;rcases h.2 with hn | ⟨g,cap,cur,rfl,hb2,hgg,rest⟩
  · exact .inl hn
  · exact .inr ⟨g,cap,cur,rfl,hb2,(hb.block g (Array.getElem?_eq_some_iff.1 hgg).1).trans hgg,rest⟩

theorem prAt_own {its:List (Ent×Value)} (h:w.ownsRow base 62 33 v its.length (flatP its)) (hk:∀p∈its,Key p.1.1) (hr:∀p∈its,Reads w p.2 p.1.2):
    PrAt w v (fun i=>(its.getD i (e00,undef)).2) (its.map (·.1)):=by
  have hget:∀i (hi:i<its.length),(its.map (·.1)).getD i e00=its[i].1∧its.getD i (e00,undef)=its[i]:=fun i hi=>⟨by simp [List.getD,hi],by simp [List.getD,hi]⟩
  have hlast:∀i,i<(its.map (·.1)).length→Key ((its.map (·.1)).getD i e00).1∧Reads w (its.getD i (e00,undef)).2 ((its.map (·.1)).getD i e00).2:=by
    intro i hi;rw [List.length_map] at hi;obtain ⟨e1,e2⟩:=hget i hi;rw [e1,e2];exact ⟨hk _ (List.getElem_mem hi),hr _ (List.getElem_mem hi)⟩
  rcases h.2 with ⟨rfl,hn⟩ | ⟨g,cap,cur,rfl,_,hg,hcap,_,hsz,htake⟩
  · exact ⟨none,0,by rw [List.length_map,hn],by rw [List.length_map];omega,fun hp=>by rw [List.length_map] at hp;omega,hlast⟩
  · refine ⟨_,cap,by rw [List.length_map],by rw [List.length_map];exact hcap,fun _=>⟨g,0,rfl,fun i hi j u hu=>?_⟩,hlast⟩
    rw [List.length_map] at hi;obtain ⟨e1,e2⟩:=hget i hi;rw [e1] at hu;simp only [e2] at hu;have h1:=flatP_at its (fun p hp=>(hk p hp).1) i hi j u hu;rw [← htake] at h1;have h2:(cur.toList)[i * 33+j]?=some u:=by
      rw [List.getElem?_take] at h1;split at h1
      · exact h1
      · cases h1
    rw [cell_of_row w g _ cur _ _ hg,Nat.zero_add];simpa using h2

theorem reads_one (h:Reads w v zs):v.oneCell'=true:=by
  obtain ⟨a,c,rfl,_⟩:=h;rfl

end Go.Proofs.YtabiglnmfdpcfaaGreatDoor

namespace Go.Proofs.YtabiglnmfdpcfaaGreatDoor
variable {E:List Ent}
variable {base g n n' o:Nat}
variable {v v':Value}
variable {w w' wb:World}
variable {xs xs':List Value}
variable {zs:Lq}
set_option maxRecDepth 20000
open Go.RowKit

def wes (es:List Ent):List Wt:=es.map fun e=>asW e (.slice none 0 0)
def wesV (V:Nat→Value) (es:List Ent) (k:Nat):List Wt:=(List.range k).map fun i=>asW (es.getD i e00) (V i)
theorem wesV_len (V:Nat→Value) (es:List Ent) (k:Nat):(wesV V es k).length=k:=by simp [wesV]
theorem wesV_succ (V:Nat→Value) (es:List Ent) (k:Nat):wesV V es (k+1)=wesV V es k++[asW (es.getD k e00) (V k)]:=by simp [wesV,List.range_succ]
theorem wesV_nrm (V:Nat→Value) (es:List Ent):(wesV V es es.length).map nrm=(wes es).map nrm:=by
  apply List.ext_getElem (by simp [wesV,wes]);intro i h1 h2;simp [wesV] at h1;simp [wesV,wes,asW,nrm,List.getD,h1]
theorem asW_ok {e:Ent} (hk:Key e.1) (hr:Reads w v e.2):WtOk (asW e v):=by
  obtain ⟨a,c,e1,_,_,hb,_⟩:=hr;exact ⟨hk,hb,a,c,e1⟩
def itsOf (rs:List Wt):List (Ent×Value):=(rs.filter fun x=>!x.g).map fun x=>((x.k,x.b),x.v)
theorem itsOf_ent (rs:List Wt):(itsOf rs).map (·.1)=entW rs:=by
  unfold itsOf entW;rw [List.map_map];rfl
theorem itsOf_snoc (rs:List Wt) (x:Wt):itsOf (rs++[x])=itsOf rs++(if x.g then [] else [((x.k,x.b),x.v)]):=by
  unfold itsOf;rw [List.filter_append,List.map_append];cases h:x.g <;> simp [h]
theorem itsOf_take (rs:List Wt) (i:Nat) (h:i<rs.length):itsOf (rs.take (i+1))=itsOf (rs.take i)++(if rs[i]!.g then [] else [((rs[i]!.k,rs[i]!.b),rs[i]!.v)]):=by
  rw [List.take_succ_eq_append_getElem h,itsOf_snoc,getElem!_pos rs i h]
theorem itsOf_few (rs:List Wt):(itsOf rs).length≤rs.length:=by unfold itsOf;rw [List.length_map];exact List.length_filter_le _ _
theorem itsOf_mem {rs:List Wt} {p:Ent×Value} (h:p∈itsOf rs):∃x∈rs,p=((x.k,x.b),x.v):=by
  unfold itsOf at h;obtain ⟨x,hx,rfl⟩:=List.mem_map.1 h;exact ⟨x,(List.mem_filter.1 hx).1,rfl⟩

def paPl:Nat→Option (Nat×Nat):=fun i=>(#[(0,32),(32,1)]:Array (Nat×Nat))[i]?

theorem built_pEq (ps:List (Nat×Value)):Tryz.prog.built 62 ps=Instr.fill paPl (encP z32 (.slice none 0 0)).toArray ps:=by kernel_rfl

theorem built_pr (K:Lq) (a:Option Addr) (n c:Nat) (hk:K.length=32):Tryz.prog.built 62 [(0,.agg (B K)),(1,.slice a n c)]=some (encP K (.slice a n c)).toArray:=by
  rw [built_pEq,fill_one paPl 0 0 32 _ (K.map (Value.int .u8)) _ _ rfl (cells_b K) (by simp [hk]) (by simp [encP,z32]),fill_one paPl 1 32 1 _ [.slice a n c] _ _ rfl rfl rfl (by simp [encP,z32,hk]),Instr.fill];congr 2
  simp [encP,z32,hk]

def OvPost (es:List Ent) (ls:List Wt) (w:World) (e:Ending) (w':World):Prop:=∃v rs,e=.returned v∧Lat ((wes es++ls).map nrm) (rs.map nrm)∧w'.ownsRow w.heap.size 62 33 v (itsOf rs).length (flatP (itsOf rs))∧(∀x∈rs,WtOk x∧∃sp,Own w.heap.size w' x.v x.b sp)∧(∀p q,p<rs.length→q<rs.length→p≠q→∀h,rs[p]!.v.ownBlock=some h→rs[q]!.v.ownBlock≠some h)∧rs.length≤es.length+ls.length∧Kb w w'

structure AccP (wb w:World) (v:Value) (n:Nat) (xs:List Value):Prop where
  own:w.ownsRow wb.heap.size 62 33 v n xs
  bel:Kb wb w
theorem AccP.nil (w:World):AccP w w (.slice none 0 0) 0 []:=⟨World.ownsRow_nil _ _ _ _,Below.refl _ _⟩
theorem AccP.grow (h:AccP wb w v n xs) (hb:Kb w w'):AccP wb w' v n xs:=⟨ownsP_below h.own hb,grow_trans h.bel hb⟩
theorem AccP.app (h:AccP wb w v n xs) (k1:w'.ownsRow wb.heap.size 62 33 v' n' xs') (k2:w.grownBy w' v.ownBlock):AccP wb w' v' n' xs':=⟨k1,h.bel.grown k2 h.bel.size fun g hg=>(h.own.lt g hg).1⟩
end Go.Proofs.YtabiglnmfdpcfaaGreatDoor

namespace Go.Proofs.YtabiglnmfdpcfaaGreatDoor
variable {E:List Ent}
variable {base g n n' o:Nat}
variable {v v':Value}
variable {w w' wb:World}
variable {xs xs':List Value}
variable {zs:Lq}
set_option maxRecDepth 20000
open Go.RowKit

theorem lastW_app {A B:List Wt} {y:Wt}:LastW (A++B) y↔LastW B y∨(LastW A y∧∀z∈B,z.k≠y.k):=by
  constructor
  · rintro ⟨p,s,h1,h2⟩
    rcases List.append_eq_append_iff.1 h1 with ⟨a,e1,e2⟩ | ⟨c,e1,e2⟩
    · exact .inl ⟨a,s,e2,h2⟩
    · cases c with
      | nil=>exact .inl ⟨[],s,e2.symm,h2⟩
      | cons x c=>
        injection e2 with e3 e4;subst e3;subst e4;exact .inr ⟨⟨p,c,e1,fun z hz=>h2 z (List.mem_append_left _ hz)⟩,fun z hz=>h2 z (List.mem_append_right _ hz)⟩
  · rintro (⟨p,s,rfl,h⟩ | ⟨⟨p,s,rfl,h⟩,h2⟩)
    · exact ⟨A++p,s,by simp,h⟩
    · exact ⟨p,s++B,by simp,fun z hz=>(List.mem_append.1 hz).elim (h z) (h2 z)⟩
theorem lastW_ex:∀(l:List Wt) (z:Wt),z∈l→∃x,LastW l x∧x.k=z.k
  | [],_,h=>by cases h
  | a::t,z,h=>by
    by_cases q:∃y∈t,y.k=z.k
    · obtain ⟨y,hy,e⟩:=q
      obtain ⟨x,⟨p,s,rfl,h2⟩,e2⟩:=lastW_ex t y hy;exact ⟨x,⟨a::p,s,rfl,h2⟩,e2.trans e⟩
    · rcases List.mem_cons.1 h with e | h
      · subst e
        exact ⟨z,⟨[],t,rfl,fun y hy e=>q ⟨y,hy,e⟩⟩,rfl⟩
      · exact absurd ⟨z,h,rfl⟩ q
theorem nrm_of {x z:Wt} (h:nrm x=nrm z) (hx:x.g=false):z.g=false∧z.k=x.k∧z.b=x.b:=by
  unfold nrm at h;injection h with h1 h2 h3;rw [hx] at h2 h3;rw [← h2] at h3;exact ⟨h2.symm,h1.symm,h3.symm⟩
theorem entW_mem {rs:List Wt} {e:Ent}:e∈entW rs↔∃z∈rs,z.g=false∧(z.k,z.b)=e:=by
  unfold entW;rw [List.mem_map];constructor
  · rintro ⟨z,hz,e⟩
    obtain ⟨h1,h2⟩:=List.mem_filter.1 hz;exact ⟨z,h1,by simpa using h2,e⟩
  · rintro ⟨z,h1,h2,e⟩
    exact ⟨z,List.mem_filter.2 ⟨h1,by simp [h2]⟩,e⟩
theorem entW_last {l rs:List Wt} (hr:Lat (l.map nrm) (rs.map nrm)) {e:Ent}:e∈entW rs↔∃x,LastW l x∧x.g=false∧(x.k,x.b)=e:=by
  rw [entW_mem];constructor
  · rintro ⟨z,h1,h2,rfl⟩
    obtain ⟨x,h3,h4⟩:=LastW.nm.1 ((hr.mem _).1 (List.mem_map_of_mem h1));obtain ⟨a,b,c⟩:=nrm_of h4.symm h2;exact ⟨x,h3,a,by rw [b,c]⟩
  · rintro ⟨x,h1,h2,rfl⟩
    obtain ⟨z,h3,h4⟩:=List.mem_map.1 ((hr.mem _).2 (LastW.nm.2 ⟨x,h1,rfl⟩));obtain ⟨a,b,c⟩:=nrm_of h4.symm h2;exact ⟨z,h3,a,by rw [b,c]⟩
theorem lastW_wes (hE:E.Pairwise fun a b=>a.1≠b.1) {x:Wt}:LastW (wes E) x↔∃e∈E,x=asW e (.slice none 0 0):=by
  constructor
  · intro h
    obtain ⟨e,he,q⟩:=List.mem_map.1 h.mem;exact ⟨e,he,q.symm⟩
  · rintro ⟨e,he,rfl⟩
    obtain ⟨s,r,rfl⟩:=List.append_of_mem he;refine ⟨wes s,wes r,by simp [wes],fun y hy=>?_⟩;obtain ⟨f,hf,rfl⟩:=List.mem_map.1 hy;exact fun q=>(List.pairwise_cons.1 (List.pairwise_append.1 hE).2.1).1 f hf q.symm
theorem entW_nodup {rs:List Wt} (h:Ris rs):(entW rs).Nodup:=by
  unfold entW;refine List.pairwise_map.2 (List.Pairwise.imp (fun {a b} q e=>?_) (List.Pairwise.filter _ h));injection e with e1 _;rw [e1] at q;exact q.ne

theorem ov_ents {ls ks rs:List Wt} (hE:E.Pairwise fun a b=>a.1≠b.1) (hk:Lat ls ks) (hr:Lat ((wes E++ls).map nrm) (rs.map nrm)):(entW rs).Perm (ovE E ks):=by
  have hris:Ris rs:=by
    have:=List.pairwise_map.1 hr.ris;exact this
  have hany:∀k:Lq,(ks.any fun x=>x.k == k)=false↔∀z∈ls,z.k≠k:=fun k=>by
    constructor
    · intro h z hz e
      obtain ⟨x,hx,e2⟩:=lastW_ex ls z hz;have:=List.any_eq_false.1 h x ((hk.mem x).2 hx);rw [e2,e] at this;simp at this
    · intro h
      refine List.any_eq_false.2 fun x hx=>?_
      have:=h x (hk.sub x hx);simpa using this
  have hnE:E.Nodup:=List.Pairwise.imp (fun {a b} q e=>q (by rw [e])) hE;refine (List.perm_ext_iff_of_nodup (entW_nodup hris) ?_).2 fun e=>?_
  · unfold ovE
    refine List.nodup_append.2 ⟨hnE.filter _,entW_nodup hk.ris,fun a ha b hb q=>?_⟩;subst q;obtain ⟨_,h2⟩:=List.mem_filter.1 ha;obtain ⟨z,z1,_,z3⟩:=entW_mem.1 hb;have h2:(ks.any fun x=>x.k == a.1)=false:=by simpa using h2
    have:=List.any_eq_false.1 h2 z z1;rw [← z3] at this;simp at this
  · rw [entW_last hr]
    unfold ovE;rw [List.mem_append,List.mem_filter,entW_mem];constructor
    · rintro ⟨x,h1,h2,rfl⟩
      rcases lastW_app.1 h1 with q | ⟨q,q2⟩
      · exact .inr ⟨x,(hk.mem x).2 q,h2,rfl⟩
      · obtain ⟨e,he,rfl⟩:=(lastW_wes hE).1 q
        refine .inl ⟨he,?_⟩;show (!ks.any fun x=>x.k == e.1)=true;rw [(hany e.1).2 q2];rfl
    · rintro (⟨h1,h2⟩ | ⟨z,h1,h2,rfl⟩)
      · have h2:(ks.any fun x=>x.k == e.1)=false:=by simpa using h2
        exact ⟨asW e (.slice none 0 0),lastW_app.2 (.inr ⟨(lastW_wes hE).2 ⟨e,h1,rfl⟩,(hany e.1).1 h2⟩),rfl,rfl⟩
      · exact ⟨z,lastW_app.2 (.inl ((hk.mem z).1 h1)),h2,rfl⟩

end Go.Proofs.YtabiglnmfdpcfaaGreatDoor

namespace Go.Proofs.YtabiglnmfdpcfaaGreatDoor
variable {E:List Ent}
variable {base g n n' o:Nat}
variable {v v':Value}
variable {w w' wb:World}
variable {xs xs':List Value}
variable {zs:Lq}
set_option maxRecDepth 20000
open Go.RowKit

def FnPost (hs:List Nat) (b:Bool) (w:World) (e:Ending) (w':World):Prop:=
  ∃a c,e=.returned (.tuple #[.slice a hs.length c,.bool b])∧w'.ownsRow w.heap.size 3 1 (.slice a hs.length c) hs.length (nats hs)∧Kb w w'

def ShPost (a:Option Addr) (c:Nat) (z:Nat×Nat) (w:World) (e:Ending) (w':World):Prop:=e=.returned (.tuple #[.slice a z.1 c,.int .i64 (z.2:Int)])∧Kb w w'

end Go.Proofs.YtabiglnmfdpcfaaGreatDoor
