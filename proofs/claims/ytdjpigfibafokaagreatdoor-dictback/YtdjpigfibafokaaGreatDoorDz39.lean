/- A root at hand stays one where its tree stays; a hold more. No program in this text but the store's own. -/
import Derived.Test.YtdjpigfibafokaaGreatDoorDz01
import Derived.Test.YtdjpigfibafokaaGreatDoorDz23
import Derived.Test.YtdjpigfibafokaaGreatDoorDz19
import Derived.Test.YtdjpigfibafokaaGreatDoorDz36
import Derived.Test.YtdjpigfibafokaaGreatDoorDz38
import Derived.Test.YtdjpigfibafokaaGreatDoorDz27
import Derived.Test.YtdjpigfibafokaaGreatDoorDz31
import Derived.Test.YtdjpigfibafokaaGreatDoorDz22
import Derived.WalkMore
namespace Go.Proofs.YtdjpigfibafokaaGreatDoor
variable {R b d fuel g gs i j n o room top x:Nat}
variable {S fr pend:List Nat}
variable {T:Tre}
variable {bs:Lq}
variable {cs cs':Lz}
variable {kv v:Value}
variable {w w':World}
set_option maxHeartbeats 4000000
set_option maxRecDepth 20000
open Go.RowKit

theorem rt_tree (r:Rt cs x T) (h9:IsT cs' x T) (ho:x=0∨0<own cs' [] (x-1)):Rt cs' x T:=by
  refine ⟨h9,fun q=>?_,ho⟩;have h4:=r.dp
  match T,r.tree,h9 with
  | .emp,e,_=>exact absurd q (by rw [sdC,if_pos (show x=0 from e)];show ¬zc.kind=2;decide)
  | .lf _ _,_,e=>have:=e.1;rw [sdC,if_neg (by omega)] at q;have:=e.2.2.1;omega
  | .nd d _ _ _ _,e0,e=>
    have h1:=e.1;have hk:(sdC cs x).kind=2:=by rw [sdC,if_neg (by omega)];exact e0.2.2.1
    have:=h4 hk;rw [sdC,if_neg (by omega)] at this ⊢;rw [e.2.2.2.1,← e0.2.2.2.1];exact this
theorem rt_more14 (W:Wf cs []) {i:Nat} (hi:0<cc cs i) {x:Nat} {T:Tre} (r:Rt cs x T):Rt (moreC cs i) x T:=by
  have hk:∀j,0<cc cs j→0<cc (moreC cs i) j∧Core (ce cs j) (ce (moreC cs i) j):=fun j hj=>by
    rw [moreC_cc hi,moreC_ce];exact ⟨by omega,rfl⟩
  refine rt_tree r (r.tree.keep hk) (r.own.imp id (fun h=>?_));have:=W.le (x-1);unfold own at h ⊢;rw [moreC_cc hi,moreC_ce];omega
theorem own_more14 (W:Wf cs []) {i:Nat} (hi:0<cc cs i) (j:Nat):own (moreC cs i) [] j=own cs [] j+(if i=j then 1 else 0):=by
  have:=W.le j;unfold own;rw [moreC_cc hi,moreC_ce];omega

end Go.Proofs.YtdjpigfibafokaaGreatDoor

namespace Go.Proofs.YtdjpigfibafokaaGreatDoor
variable {R b d fuel g gs i j n o room top x:Nat}
variable {S fr pend:List Nat}
variable {T:Tre}
variable {bs:Lq}
variable {cs cs':Lz}
variable {kv v:Value}
variable {w w':World}
set_option maxHeartbeats 4000000
set_option maxRecDepth 20000
open Go.RowKit

def nct (ms:Nms) (j:Nat):Nat:=ms.countP (fun p=>p.2 == j+1)
theorem nmPut_new {ms:Nms} {k:List UInt8} (h:nmHas ms k=false) (v:Nat):nmPut ms k v=(k,v)::ms:=by
  show (k,v)::nmDel ms k=_;rw [nmDel_none h]
theorem nct_put {ms:Nms} {k:List UInt8} (h:nmHas ms k=false) (v j:Nat):nct (nmPut ms k v) j=nct ms j+(if v=j+1 then 1 else 0):=by
  rw [nmPut_new h,nct,List.countP_cons];simp only [beq_iff_eq];rfl
theorem nct_pos {ms:Nms} {k:List UInt8} (h:(k,j+1)∈ms):0<nct ms j:=List.countP_pos_iff.2 ⟨_,h,by simp⟩
theorem nct_del:∀ {ms:Nms} {k:List UInt8} {v:Nat},(ms.map (·.1)).Nodup→(k,v)∈ms→∀j,nct (nmDel ms k) j+(if v=j+1 then 1 else 0)=nct ms j
  | [],_,_,_,h,_=>by cases h
  | p::ms,k,v,hn,h,j=>by
    rw [List.map_cons,List.nodup_cons] at hn;rcases List.mem_cons.1 h with e | h
    · subst e
      have h0:nmHas ms k=false:=by
        rw [Bool.eq_false_iff];exact fun q=>hn.1 (nmHas_iff.1 q)
      have e1:nmDel ((k,v)::ms) k=ms:=by
        have e0:nmDel ((k,v)::ms) k=nmDel ms k:=by simp [nmDel]
        rw [e0,nmDel_none h0]
      rw [e1,nct,nct,List.countP_cons];simp only [beq_iff_eq]
    · have hne:p.1≠k:=fun e=>hn.1 (e ▸ List.mem_map.2 ⟨_,h,rfl⟩)
      have e1:nmDel (p::ms) k=p::nmDel ms k:=by simp [nmDel,hne]
      have:=nct_del hn.2 h j;rw [e1];unfold nct at *;rw [List.countP_cons,List.countP_cons];omega
theorem nmDel_mem {ms:Nms} {k:List UInt8} {p:List UInt8×Nat}:p∈nmDel ms k↔p∈ms∧p.1≠k:=by
  unfold nmDel;rw [List.mem_filter];simp

theorem rt_stay (W:Wf cs' []) (k:∀i,0<cc cs' i→0<cc cs i∧Core (ce cs i) (ce cs' i)) {x:Nat} {T:Tre} (r:Rt cs x T) (ho:x=0∨0<own cs' [] (x-1)):Rt cs' x T:=
  rt_tree r (r.tree.stay W k (ho.imp id (fun h=>by unfold own at h;omega))) ho
theorem own_less14 (W:Wf cs []) (st:Step cs [i+1] cs' [] n) (j:Nat):own cs' [] j=own cs [] j-(if i=j then 1 else 0):=by
  have h1:=st.own j;have h2:=W.le j;rw [h1];unfold own;rw [List.count_nil]
  by_cases e:i=j
  · subst e
    simp;omega
  · rw [if_neg e,List.count_cons,List.count_nil,if_neg (by simpa using fun h=>e (by omega))]
    omega

def upG (G:List UInt8→Tre) (k:List UInt8) (T:Tre):List UInt8→Tre:=fun x=>if x=k then T else G x

structure Sv (w1 w:World) (X:List Nat) (gv b g gs R:Nat) (ms:Nms) (G:List UInt8→Tre) (hd:Nat) (T:Tre) (cs:Lz) (fr:List Nat):Prop where
  hv:Hv w1 w X gv b g gs R ms cs fr
  own:∀j,own cs [] j=nct ms j+(if hd=j+1 then 1 else 0)
  rt:Rt cs hd T
  rts:∀p∈ms,Rt cs p.2 (G p.1)
  few:ms.length≤16

section
variable {w1 w:World} {X:List Nat} {gv b g gs R:Nat} {ms:Nms} {G:List UInt8→Tre} {hd:Nat} {T:Tre} {cs:Lz} {fr:List Nat}

theorem Sv.grow (h:Sv w1 w X gv b g gs R ms G hd T cs fr) (hb:Kb w w'):Sv w1 w' X gv b g gs R ms G hd T cs fr:=⟨h.hv.grow hb,h.own,h.rt,h.rts,h.few⟩
theorem Sv.low (h:Sv w1 w X gv b g gs R ms G hd T cs fr):Kb w1 w:=h.hv.low
theorem Sv.wf (h:Sv w1 w X gv b g gs R ms G hd T cs fr):Wf cs []:=h.hv.wf
theorem Sv.ownLe (h:Sv w1 w X gv b g gs R ms G hd T cs fr) (i:Nat):Go.Proofs.YtdjpigfibafokaaGreatDoor.own cs [] i≤17:=by
  rw [h.own];have h1:nct ms i≤ms.length:=List.countP_le_length;have:=h.few;split <;> omega
theorem Sv.small (h:Sv w1 w X gv b g gs R ms G hd T cs fr) (i:Nat):cc cs i<1073741824:=by
  have h1:=h.wf.ccLe i 17 (h.ownLe i);obtain ⟨S,hs,_⟩:=h.hv.hs;have:=hs.sizes;omega
theorem Sv.occ (h:Sv w1 w X gv b g gs R ms G hd T cs fr) (h0:0<hd):0<cc cs (hd-1):=(h.rt.tree.occ.resolve_left (by omega)).2

theorem sv_add {s:ByteArray} (h:Sv w1 w X gv b g gs R ms G hd T cs fr) (hn:nmOk s=true) (ht:nmHas ms s.data.toList=false) (hl:ms.length<16):Kc 94 #[.pointer (some ⟨gv,0,none⟩),.string s,.int .i64 (hd:Int)] w fun e w'=>∃cs',e=.returned (.int .i64 0)∧Sv w1 w' X gv b g gs R (nmPut ms s.data.toList hd) (upG G s.data.toList T) hd T cs' fr∧noc cs'=noc cs∧cs'.length=cs.length∧Kx X b w w':=by
  have hrt:∀cs':Lz,Rt cs' hd T→(∀p∈ms,Rt cs' p.2 (G p.1))→∀p∈nmPut ms s.data.toList hd,Rt cs' p.2 (upG G s.data.toList T p.1):=fun cs' r1 r2 p hp=>by
    rw [nmPut_new ht] at hp;rcases List.mem_cons.1 hp with rfl | hp
    · simpa [upG] using r1
    · have:p.1≠s.data.toList:=fun e=>by
        have:nmHas ms s.data.toList=true:=nmHas_iff.2 (List.mem_map.2 ⟨p,hp,e⟩);rw [ht] at this;cases this
      rw [upG,if_neg this];exact r2 p hp
  have hlen:(nmPut ms s.data.toList hd).length≤16:=by
    rw [nmPut_new ht,List.length_cons];omega
  cases hd with
  | zero=>
    refine (vadd_zero h.hv hn ht hl).mono ?_;rintro e w' ⟨rfl,k1,k2⟩;refine ⟨cs,rfl,⟨k1,fun j=>?_,h.rt,hrt cs h.rt h.rts,hlen⟩,rfl,rfl,k2⟩;rw [nct_put ht,h.own];simp
  | succ i=>
    have hc:=h.occ (by omega);have hr:=h.rt.root;rw [show i+1-1=i from rfl] at hc;rw [show (((i+1:Nat)):Int)=(i:Int)+1 from by push_cast;rfl] at hr ⊢;refine (vadd_ok h.hv hn i hr hc (h.small i) ht hl).mono ?_;rintro e w' ⟨rfl,k1,k2⟩;refine ⟨moreC cs i,rfl,⟨k1,fun j=>?_,rt_more14 h.wf hc h.rt,hrt _ (rt_more14 h.wf hc h.rt) (fun p hp=>rt_more14 h.wf hc (h.rts p hp)),hlen⟩,moreC_noc hc,moreC_len _ _,k2⟩;rw [nct_put ht,own_more14 h.wf hc,h.own];have e:(i=j)=(i+1=j+1):=by simp
    simp only [e]
theorem sv_there {s:ByteArray} (h:Sv w1 w X gv b g gs R ms G hd T cs fr) (hn:nmOk s=true) (ht:nmHas ms s.data.toList=true):Kc 94 #[.pointer (some ⟨gv,0,none⟩),.string s,.int .i64 (hd:Int)] w fun e w'=>e=.returned (.int .i64 6)∧Kb w w':=vadd_there h.hv (by have:=nmOk_le hn;unfold maxLen;omega) hn _ h.rt.root ht
theorem sv_drop {s:ByteArray} (hs:s.size≤maxLen) {v:Nat} (h:Sv w1 w X gv b g gs R ms G hd T cs fr) (hv:(s.data.toList,v)∈ms):Kc 85 #[.pointer (some ⟨gv,0,none⟩),.string s] w fun e w'=>∃n:Int,e=.returned (.tuple #[.int .i64 n,.int .i64 0])∧∃cs' fr' m,n=((m:Nat):Int)∧Sv w1 w' X gv b g gs R (nmDel ms s.data.toList) G hd T cs' fr'∧noc cs'+m=noc cs∧cs'.length=cs.length∧Kx X b w w':=by
  have hnd:(ms.map (·.1)).Nodup:=by
    obtain ⟨D,_,hv⟩:=h.hv.vm;exact hv.nd
  have hct:=nct_del hnd hv;have hlen:(nmDel ms s.data.toList).length≤16:=Nat.le_trans (List.length_filter_le _ _) h.few;refine vdrop_go h.hv hs hv (Q:=fun n w'=>∃cs' fr' m,n=((m:Nat):Int)∧Sv w1 w' X gv b g gs R (nmDel ms s.data.toList) G hd T cs' fr'∧noc cs'+m=noc cs∧cs'.length=cs.length∧Kx X b w w') fun w' h' k'=>?_
  have hsub:∀p∈nmDel ms s.data.toList,p∈ms:=fun p hp=>(nmDel_mem.1 hp).1
  cases v with
  | zero=>
    refine (vgo_zero h').mono ?_;rintro e w'' ⟨rfl,k1,k2⟩;refine ⟨0,rfl,cs,fr,0,rfl,⟨k1,fun j=>?_,h.rt,fun p hp=>h.rts p (hsub p hp),hlen⟩,rfl,rfl,k'.trans k2⟩;rw [h.own];have:=hct j;simp at this;omega
  | succ i=>
    have ho:0<own cs [] i:=by
      rw [h.own];have:=nct_pos hv;omega
    refine (vgo_ok h' i ho).mono ?_;rintro e w'' ⟨cs',fr',n,r,st,rfl,k1,k2⟩;have hown:∀j,own cs' [] j=nct (nmDel ms s.data.toList) j+(if hd=j+1 then 1 else 0):=fun j=>by
      rw [own_less14 h.wf st,h.own];have:=hct j;have e:(i=j)=(i+1=j+1):=by simp
      simp only [e];omega
    refine ⟨n,rfl,cs',fr',n,rfl,⟨k1,hown,rt_stay st.wf st.keep h.rt ?_,fun p hp=>rt_stay st.wf st.keep (h.rts p (hsub p hp)) ?_,hlen⟩,st.noc,st.len,k'.trans k2⟩
    · by_cases e:hd=0
      · exact .inl e
      · refine .inr ?_
        rw [hown,if_pos (by omega)];omega
    · by_cases e:p.2=0
      · exact .inl e
      · refine .inr ?_
        rw [hown];have:=nct_pos (ms:=nmDel ms s.data.toList) (k:=p.1) (j:=p.2-1) (by rw [show p.2-1+1=p.2 by omega];exact hp);omega

end

end Go.Proofs.YtdjpigfibafokaaGreatDoor

namespace Go.Proofs.YtdjpigfibafokaaGreatDoor
variable {R b d fuel g gs i j n o room top x:Nat}
variable {S fr pend:List Nat}
variable {T:Tre}
variable {bs:Lq}
variable {cs cs':Lz}
variable {kv v:Value}
variable {w w':World}
set_option maxHeartbeats 4000000
set_option maxRecDepth 20000
open Go.RowKit

section
variable {P:Program} {ops:Array Oper} {Q:Exit→Act→World→Prop} {md:Region.Mode} {S:World→Prop} {Ws:List Nat}
theorem wpAnyW_keep {listed:Array Bool} {a:Act} {o:Oper} (ho:ops[i]?=some o) (hr:Region.ready md ops listed=[i])
    (h:∀K':Act→World→Prop,Shut (∀a w,S w→wpAnyW P md ops Q S Ws fuel (listed.setIfInBounds i true) a w→K' a w)→if Region.wanted o (yielded ops a.tmps)=true then Oper.wp P o a w K' Q else K' (a.put o.dst undef) w):
    wpAnyW P md ops Q S Ws (fuel+1) listed a w:=by
  refine ⟨fun h0=>?_,fun j hj=>?_⟩
  · rw [hr] at h0
    cases h0
  · rw [hr] at hj
    obtain rfl:j=i:=by simpa using hj
    exact wpOp_step ho (fun K' hK=>h K' (fun a w hS hW=>hK a w ⟨.inr hS,hW⟩))
end

theorem wpList_bsr1 {ops:Array Oper} {rest:List Oper} {op:Oper} {a:Act} {Q:Exit→Act→World→Prop} (w:World) (hgd:op.guard=none) (x:Operand) (ho:op.op=.buildSlice 31 1 #[(0,x)])
    (X:List Value) (hx:a.eval x=.agg X.toArray) (hl:X.length=3)
    (hk:∀w' g,Blk w' g 163 X.toArray→Kb w w'→wpList Tryz.prog ops Q rest (a.put op.dst (.slice (some ⟨g,0,none⟩) 1 1)) w'):wpList Tryz.prog ops Q (op::rest) a w:=by
  refine wpList_plain hgd fun K hK=>?_
  obtain ⟨i,z,hi,hz,hs,_,hzs⟩:=info_raw;have hrun:=run_buildSlice (P:=Tryz.prog) w 31 163 1 #[(0,.agg X.toArray)] X.toArray i z Tryz.underlying31 hi hz (by rw [hs];omega) (by rw [hs];omega) (by
    rw [hs];obtain ⟨zs,hzz,hzl⟩:∃zs:List Value,(Array.range (1 * 3)).map (z.cells[· % z.cells.size]!)=zs.toArray∧zs.length=3:=⟨_,(Array.toArray_toList).symm,by simp⟩;rw [hzz];have:=fill_one (fun i=>some (i * 3,3)) 0 0 3 (.agg X.toArray) X zs [] rfl rfl hl (by omega);rw [show (#[(0,Value.agg X.toArray)]:Array (Nat×Value)).toList=[(0,Value.agg X.toArray)] from rfl,this,Instr.fill];simp [hzl])
  unfold Oper.wp execOp;simp only [ho,List.map_toArray,List.map_cons,List.map_nil,hx,Sem.run_bind,hrun,Result.andThen_ok,Sem.run_pure];exact hK _ _ (hk _ w.heap.size (Blk.new w _ _) (grow_alloc w _))

section
variable {w1 w w':World} {X:List Nat} {d gv hd b g gs R:Nat} {ms:Nms} {G:List UInt8→Tre} {T:Tre} {cs cs':Lz} {fr fr':List Nat}

theorem Hv.turnX (h:Hv w1 w X gv b g gs R ms cs fr) {x:Nat} (hx:x∈X) (h1:gv≠x) (h2:b≠x) (hg:w.grownBy w' (some x)):Hv w1 w' X gv b g gs R ms cs fr:=
  ⟨(h.hz.turn hx hg).1,h.gx,h.bx,h.blk.kept hg h1,vm_at h.vm (hg.block b h.vm.lt (fun e=>h2 (by injection e)))⟩

theorem sv_step (h:Sv w1 w X gv b g gs R ms G hd T cs fr) (hv:Hv w1 w' X gv b g gs R ms cs' fr') {top:Nat} {T':Tre} (ho:∀i,own cs' [] i+(if hd=i+1 then 1 else 0)=own cs [] i+(if top=i+1 then 1 else 0)) (keep:∀x Y,IsT cs x Y→(x=0∨0<cc cs' (x-1))→IsT cs' x Y) (t:Rt cs' top T'):Sv w1 w' X gv b g gs R ms G top T' cs' fr':=by
  have hh:∀j,own cs' [] j=nct ms j+(if top=j+1 then 1 else 0):=fun j=>by
    have h1:=ho j;have h2:=h.own j;omega
  refine ⟨hv,hh,t,fun p hp=>?_,h.few⟩;have q:=h.rts p hp;have ho2:p.2=0∨0<own cs' [] (p.2-1):=by
    by_cases h0:p.2=0
    · exact .inl h0
    · refine .inr ?_
      rw [hh];have:0<nct ms (p.2-1):=nct_pos (k:=p.1) (by rw [show p.2-1+1=p.2 by omega];exact hp);omega
  exact rt_tree q (keep _ _ q.tree (ho2.imp id fun h=>by unfold own at h;omega)) ho2

structure Ds (w1 w:World) (X:List Nat) (d gv b g gs R:Nat) (ms:Nms) (G:List UInt8→Tre) (hd:Nat) (T:Tre) (cs:Lz) (fr:List Nat):Prop where
  dk:Dk w d gv hd
  dx:d∈X
  dg:d≠gv
  sv:Sv w1 w X gv b g gs R ms G hd T cs fr
theorem Ds.grow (h:Ds w1 w X d gv b g gs R ms G hd T cs fr) (hb:Kb w w'):Ds w1 w' X d gv b g gs R ms G hd T cs fr:=⟨h.dk.grow hb,h.dx,h.dg,h.sv.grow hb⟩
theorem Ds.low (h:Ds w1 w X d gv b g gs R ms G hd T cs fr):Kb w1 w:=h.sv.low
theorem Ds.db (h:Ds w1 w X d gv b g gs R ms G hd T cs fr):d≠b:=fun e=>h.sv.hv.vm.notCells (e ▸ h.dk) rfl
theorem Ds.kx (h:Ds w1 w X d gv b g gs R ms G hd T cs fr) (k:Kx X b w w'):Dk w' d gv hd:=blk_at h.dk (k d h.dx h.db)

def Kz (X:List Nat) (b d:Nat) (w w':World):Prop:=∀y∈X,y≠b→y≠d→w'.heap[y]?=w.heap[y]?
theorem Kz.trans {X:List Nat} {w'':World} (h:Kz X b d w w') (k:Kz X b d w' w''):Kz X b d w w'':=fun y hy h1 h2=>(k y hy h1 h2).trans (h y hy h1 h2)
theorem Ds.old (h:Ds w1 w X d gv b g gs R ms G hd T cs fr) (hb:Kb w w'):∀y∈X,w'.heap[y]?=w.heap[y]?:=fun y hy=>h.sv.hv.kx hb (y+1) y hy (by omega)
theorem Ds.kz (h:Ds w1 w X d gv b g gs R ms G hd T cs fr) (hb:Kb w w'):Kz X b d w w':=fun y hy _ _=>h.old hb y hy
theorem Ds.add (h:Ds w1 w X d gv b g gs R ms G hd T cs fr) (hb:Kb w w') (hx:w.heap.size≤x) (hlt:x<w'.heap.size):Ds w1 w' (x::X) d gv b g gs R ms G hd T cs fr:=
  ⟨h.dk.grow hb,List.mem_cons_of_mem _ h.dx,h.dg,⟨⟨h.sv.hv.hz.add hb hx hlt,List.mem_cons_of_mem _ h.sv.hv.gx,List.mem_cons_of_mem _ h.sv.hv.bx,h.sv.hv.blk.grow hb,h.sv.hv.vm.grow hb⟩,h.sv.own,h.sv.rt,h.sv.rts,h.sv.few⟩⟩

theorem Ds.move {T':Tre} (hk:Dk w d gv hd) (hx:d∈X) (hg:d≠gv) (hv:Sv w1 w X gv b g gs R ms G top T' cs' fr'):Ds w1 (w.setCell ⟨d,2,none⟩ (.int .i64 (top:Int))) X d gv b g gs R ms G top T' cs' fr':=by
  have hb:d≠b:=fun e=>hv.hv.vm.notCells (e ▸ hk) rfl
  have hgr:=grown_setCell w d 2 (.int .i64 (top:Int));refine ⟨?_,hx,hg,⟨hv.hv.turnX hx hg.symm hb.symm hgr,hv.own,hv.rt,hv.rts,hv.few⟩⟩;have:=hk.set 2 (.int .i64 (top:Int));exact this

theorem goOn_ok (hk:Dk w d gv hd) (top:Nat):Kc 89 #[.pointer (some ⟨d,0,none⟩),.int .i64 (top:Int),.int .i64 0] w fun e w'=>e=.returned (.int .i64 0)∧w'=w.setCell ⟨d,2,none⟩ (.int .i64 (top:Int)):=by
  have c2:=hk.c2;have f2:=Blk.frozen hk 2;clear hk;go_enter Tryz.func89,Tryz.ntmps89
  go_wp2
  go_ret;exact ⟨rfl,rfl⟩
theorem built_raw2 (a1 a2:Option Addr) (n1 c1 n2 c2:Nat):Tryz.prog.built 163 [(0,.slice a1 n1 c1),(2,.slice a2 n2 c2)]=some #[.slice a1 n1 c1,.bool false,.slice a2 n2 c2]:=by rfl

theorem rfE_one {k:Lq} (h:rfE o R [⟨kv,k,false,bs,v⟩]=0):k.length=32∧bs.length≤1024∧o+258≤R:=by
  unfold rfE at h;split at h
  · rename_i h1
    split at h
    · rename_i h2
      have a:=bkE_zero h1 ⟨kv,k,false,bs,v⟩ (by simp);have c:=(tlE_zero h2).2 ⟨kv,k,false,bs,v⟩ (by simp);unfold rmE at h;split at h
      · rename_i h3
        refine ⟨a,?_,?_⟩
        · simp [tooR] at c;omega
        · simp [fitsN,kcnt] at h3;omega
      · omega
    · omega
  · omega

theorem dput_any (h:Ds w1 w X d gv b g gs R ms G hd T cs fr) {kv v:Value} {k bs:Lq} (hkv:Reads w kv k) (hv:∀z,Kb w1 z→Reads z v bs) (hL:∀z,Kb w1 z→Laid z):
    Kc 29 #[.pointer (some ⟨d,0,none⟩),kv,v] w fun e w'=>e=.returned (.int .i64 (rfE (noc cs) R [⟨kv,k,false,bs,v⟩]))∧
      ((rfE (noc cs) R [⟨kv,k,false,bs,v⟩]≠0∧Kb w w')∨(rfE (noc cs) R [⟨kv,k,false,bs,v⟩]=0∧∃top T' cs' fr',Ds w1 w' X d gv b g gs R ms G top T' cs' fr'∧T'.ents.Perm (upE T.ents k bs)∧noc cs'≤noc cs+258∧Kz X b d w w')):=by
  obtain ⟨ka,kc,hk1⟩:=reads_len hkv;obtain ⟨va,vc,hv1⟩:=reads_len (hv w h.low);have HRef:Hid (∀w' rl,Kb w w'→RwAt w' rl [⟨kv,k,false,bs,v⟩]→Kc 87 #[.pointer (some ⟨d,0,none⟩),rl] w' fun e w''=>e=.returned (.int .i64 (rfE (noc cs) R [⟨kv,k,false,bs,v⟩]))∧Below w'.heap.size w' w''):=fun w' rl hb h1=>refused_dict (h.grow hb).dk (h.grow hb).sv.hv h1 (by simp)
  have HRA:Hid (∀w' g,Kb w w'→Blk w' g 163 #[kv,.bool false,v]→RwAt w' (.slice (some ⟨g,0,none⟩) 1 1) [⟨kv,k,false,bs,v⟩]):=fun w' g hb h1=>rwAt_one h1 (hkv.grow hb) (hv w' (grow_trans h.low hb))
  by_cases hE:rfE (noc cs) R [⟨kv,k,false,bs,v⟩]=0
  · obtain ⟨h32,hlen,hroom⟩:k.length=32∧bs.length≤1024∧noc cs+258≤R:=rfE_one hE
    have hbk:Bytes k:=by obtain ⟨_,_,_,_,_,hb,_⟩:=hkv;exact hb
    have HOf:Hid (Kr w 88 #[kv] (.tuple #[.agg (B k),.int .i64 0])):=fun w' hb=>of_at _ _ w' (hkv.grow hb) h32
    have HSt:Hid (Kr w 19 #[.pointer (some ⟨d,0,none⟩)] (.pointer (some ⟨g,0,none⟩))):=fun w' hb=>dstore_ok (h.grow hb).dk (h.grow hb).sv.hv
    have HPu:Hid (∀w',Kb w w'→Kc 90 #[.pointer (some ⟨g,0,none⟩),.int .i64 (hd:Int),.agg (B k),v] w' fun e w''=>∃(top:Nat) (T':Tre) (cs':Lz) (fr':List Nat),e=.returned (.tuple #[.int .i64 (top:Int),.int .i64 0])∧Dk w'' d gv hd∧Sv w1 w'' X gv b g gs R ms G top T' cs' fr'∧T'.ents.Perm (upE T.ents k bs)∧noc cs'≤noc cs+258∧∀y∈X,y≠b→w''.heap[y]?=w.heap[y]?):=fun w' hb=>by
      have s:=h.grow hb;obtain ⟨S,H,hq,back⟩:=s.sv.hv.hs;obtain ⟨ss,hss,h256⟩:=s.sv.rt.bes H.2 (K:=k) ⟨h32,hbk⟩;refine (put_any H s.sv.rt ⟨h32,hbk⟩ (hq _ hv) (hq _ hL) hlen (fun i=>Nat.le_trans (s.sv.ownLe i) (by omega)) hroom hss).mono ?_;rintro e w'' ⟨top,cs',fr',T',rfl,p,H'⟩;obtain ⟨b1,b2⟩:=back _ _ _ H';refine ⟨top,T',cs',fr',rfl,s.kx (b2 b),sv_step s.sv b1 p.own p.keep p.rt,p.ents,Nat.le_trans p.noc ?_,fun y hy hyb=>(b2 b y hy hyb).trans (h.old hb y hy)⟩;have:costN T k bs ss≤257:=by
        unfold costN;split <;> omega
      omega
    have HC2:Hid (∀w',Kb w w'→w'.cell? ⟨d,2,none⟩=some (.int .i64 (hd:Int))):=fun w' hb=>(h.grow hb).dk.c2
    have HGo:Hid (∀w' (top:Nat) T' cs' fr',Dk w' d gv hd→Sv w1 w' X gv b g gs R ms G top T' cs' fr'→Kc 89 #[.pointer (some ⟨d,0,none⟩),.int .i64 (top:Int),.int .i64 0] w' fun e w''=>e=.returned (.int .i64 0)∧Ds w1 w'' X d gv b g gs R ms G top T' cs' fr'∧∀y,y≠d→w''.heap[y]?=w'.heap[y]?):=fun w' top T' cs' fr' q1 q2=>(goOn_ok q1 top).mono fun e w'' ⟨q3,q4⟩=>⟨q3,by rw [q4];exact Ds.move q1 h.dx h.dg q2,fun y hy=>by rw [q4];exact heap_setCell_other _ _ y _ hy⟩
    have HSk:=hidden (sz_path3 k h32);have HLk:Hid ((Tryz.prog.info? 63).map (·.size)=some (B k).toList.length):=by show _=_;rw [Array.length_toList];exact HSk.out.1
    have HBW:=hidden (Below.refl w.heap.size w);rw [hE] at HRef ⊢;clear h hkv hv hL hE h32 hlen hroom hbk;subst hk1 hv1;have HBR:Hid (Tryz.prog.built 163 [(0,.slice ka k.length kc),(2,.slice va bs.length vc)]=some #[.slice ka k.length kc,.bool false,.slice va bs.length vc]):=built_raw2 _ _ _ _ _ _;obtain ⟨kl,hkl⟩:∃kl,kl=k.length:=⟨_,rfl⟩;obtain ⟨bl,hbl⟩:∃bl,bl=bs.length:=⟨_,rfl⟩;rw [← hkl,← hbl] at HRef HRA HBR ⊢;rw [← hkl] at HOf;rw [← hbl] at HPu;clear hkl hbl;go_enter Tryz.func29,Tryz.ntmps29
    go_wp2_with (first
      |((with_reducible refine at_bdd 13 ?_);refine wpList_bld _ rfl _ _ rfl _ (by rw [List.map_toArray];exact HBR.out) ?_)
      |(refine wpList_bsr1 _ rfl _ rfl [.slice ka kl kc,.bool false,.slice va bl vc] rfl rfl ?_;intro x1 gr Br b1;have HQ1:=hidden (grow_trans HBW.out b1);have HRw:=hidden (HRA.out _ _ HQ1.out Br);clear Br b1)
      |(go_at_call 87;refine (HRef.out _ _ HQ1.out HRw.out).mono ?_;rintro e x2 ⟨rfl,b2⟩;have HQ2:=hidden (grow_trans HQ1.out b2);clear b2)
      |(go_at_call 88;refine (HOf.out _ HQ2.out).mono ?_;rintro e x3 ⟨rfl,b3⟩;have HQ3:=hidden (grow_trans HQ2.out b3);clear b3)
      |((with_reducible refine at_ald 8 ?_);refine wpList_al _ rfl _ rfl _ zero_path ?_;intro x4 g8 hg8 hl8 B8 b4;have HG8:=hidden hg8;have HB8:=hidden B8;have Hb4:=hidden b4;clear hg8 hl8 B8 b4)
      |((with_reducible refine at_st 8 ?_);refine wpList_sto _ rfl _ _ _ rfl g8 _ (B k) rfl rfl HB8.out HSk.out.1 HSk.out.2 (B_one _) ?_;intro x5 B8' r8;have HQ5:=hidden (grow_trans HQ3.out (below_row Hb4.out r8 HG8.out));have K8:=hidden B8'.kp;clear r8 B8'))
    refine wp_region_wrote (S:=fun w'=>Kb x5 w') [10,13] (by kernel_rfl) (below_drewN (Below.refl _ _) 1) (fun hHeld=>?_);refine wpAnyW_take0 (i:=0) (v:=.pointer (some ⟨d,0,none⟩)) rfl (by kernel_rfl) (by kernel_rfl) (by kernel_rfl) (by kernel_rfl) (fun _ _ _ h=>h) (Or.inl ⟨by rfl,fun w hS=>by go_simp⟩) (.inr hHeld) ?_;simp only [Act.put,zq1,zq2,zq4,zq5,zq6];refine wpAnyW_take0 (i:=1) (v:=.pointer (some ⟨d,0,none⟩)) rfl (by kernel_rfl) (by kernel_rfl) (by kernel_rfl) (by kernel_rfl) (fun _ _ _ h=>h) (Or.inl ⟨by rfl,fun w hS=>by go_simp⟩) (.inr hHeld) ?_;simp only [Act.put,zq1,zq2,zq3,zq4,zq5,zq6];refine wpAnyW_take0 (i:=3) (v:=.pointer (some ⟨d,0,none⟩)) rfl (by kernel_rfl) (by kernel_rfl) (by kernel_rfl) (by kernel_rfl) (fun _ _ _ h=>h) (Or.inl ⟨by rfl,fun w hS=>by go_simp⟩) (.inr hHeld) ?_;simp only [Act.put,zq1,zq2,zq3,zq4,zq5,zq6];refine wpAnyW_take0 (i:=4) (v:=.pointer (some ⟨d,0,none⟩)) rfl (by kernel_rfl) (by kernel_rfl) (by kernel_rfl) (by kernel_rfl) (fun _ _ _ h=>h) (Or.inl ⟨by rfl,fun w hS=>by go_simp⟩) (.inr hHeld) ?_;simp only [Act.put,zq1,zq2,zq3,zq4,zq5,zq6];refine wpAnyW_take0 (i:=5) (v:=.pointer (some ⟨d,1,none⟩)) rfl (by kernel_rfl) (by kernel_rfl) (by kernel_rfl) (by kernel_rfl) (fun _ _ _ h=>h) (Or.inl ⟨by rfl,fun w hS=>by go_simp⟩) (.inr hHeld) ?_;simp only [Act.put,zq1,zq2,zq3,zq4,zq5,zq6];refine wpAnyW_take0 (i:=6) (v:=.pointer (some ⟨d,2,none⟩)) rfl (by kernel_rfl) (by kernel_rfl) (by kernel_rfl) (by kernel_rfl) (fun _ _ _ h=>h) (Or.inl ⟨by rfl,fun w hS=>by go_simp⟩) (.inr hHeld) ?_;simp only [Act.put,zq1,zq2,zq3,zq4,zq5,zq6];refine wpAnyW_take (i:=7) (v:=.int .i64 (hd:Int)) rfl (by kernel_rfl) (by kernel_rfl) (by kernel_rfl) (by kernel_rfl) (by kernel_rfl) (by kernel_rfl) (fun _ _ _ h=>h) (Or.inl ⟨by rfl,fun w hS=>by (have c2:=HC2.out _ (grow_trans HQ5.out hS);go_simp)⟩) hHeld ?_;simp only [Act.put,zq1,zq2,zq3,zq4,zq5,zq6];refine wpAnyW_take (i:=8) (v:=.agg (B k)) rfl (by kernel_rfl) (by kernel_rfl) (by kernel_rfl) (by kernel_rfl) (by kernel_rfl) (by kernel_rfl) (fun _ _ _ h=>h) (yieldsIf_load_mid rfl 63 (.tmp 8) rfl g8 0 rfl (B k).toList _ (fun w hS=>(K8.out _ hS).range) Tryz.underlying63 rfl HLk.out) hHeld ?_;simp only [Act.put,zq1,zq2,zq3,zq4,zq5,zq6];refine wpAnyW_take0 (i:=9) (v:=.slice va bl vc) rfl (by kernel_rfl) (by kernel_rfl) (by kernel_rfl) (by kernel_rfl) (fun _ _ _ h=>h) (Or.inl ⟨by rfl,fun w hS=>by go_simp⟩) (.inr hHeld) ?_;simp only [Act.put,zq1,zq2,zq3,zq4,zq5,zq6];refine wpAnyW_keep (i:=2) rfl (by kernel_rfl) (fun KQ hK=>?_);go_simp;refine (HSt.out _ (grow_trans HQ5.out hHeld)).mono ?_;rintro e y1 ⟨rfl,a1⟩;refine hK.out _ _ (grow_trans hHeld a1) ?_;have hHeld:=grow_trans hHeld a1;clear hK KQ;refine wpAnyW_one (i:=10) rfl (by kernel_rfl) (by kernel_rfl) (fun KQ hK=>?_);go_simp;refine (HPu.out _ (grow_trans HQ5.out hHeld)).mono ?_;rintro e y2 ⟨top,T',cs',fr',rfl,q1,q2,q3,q4,q5⟩;refine hK.out _ _ ?_;clear hK KQ;refine wpAnyW_take0 (i:=11) (v:=.int .i64 (top:Int)) rfl (by kernel_rfl) (by kernel_rfl) (by kernel_rfl) (by kernel_rfl) (fun _ _ _ h=>h) (Or.inl ⟨by rfl,fun w hS=>by go_simp⟩) (.inl (by kernel_rfl)) ?_;simp only [Act.put,zq1,zq2,zq3,zq4,zq5,zq6];refine wpAnyW_take0 (i:=12) (v:=.int .i64 0) rfl (by kernel_rfl) (by kernel_rfl) (by kernel_rfl) (by kernel_rfl) (fun _ _ _ h=>h) (Or.inl ⟨by rfl,fun w hS=>by go_simp⟩) (.inl (by kernel_rfl)) ?_;simp only [Act.put,zq1,zq2,zq3,zq4,zq5,zq6];refine wpAnyW_one (i:=13) rfl (by kernel_rfl) (by kernel_rfl) (fun KQ hK=>?_);go_simp;refine (HGo.out _ top T' cs' fr' q1 q2).mono ?_;rintro e y3 ⟨rfl,hds,q6⟩;refine hK.out _ _ ?_;clear hK KQ;refine wpAnyW_take0 (i:=14) (v:=.int .i64 0) rfl (by kernel_rfl) (by kernel_rfl) (by kernel_rfl) (by kernel_rfl) (fun _ _ _ h=>h) (Or.inl ⟨by rfl,fun w hS=>by go_simp⟩) (.inl (by kernel_rfl)) ?_;simp only [Act.put,zq1,zq2,zq3,zq4,zq5,zq6];refine wpAnyW_done (by kernel_rfl) ?_;go_wp2
    go_ret;exact ⟨rfl,.inr ⟨trivial,top,T',cs',fr',hds,q3,q4,fun y hy h1 h2=>(q6 y h2).trans (q5 y hy h1)⟩⟩
  · clear h hkv hv hL
    subst hk1 hv1;have HBR:Hid (Tryz.prog.built 163 [(0,.slice ka k.length kc),(2,.slice va bs.length vc)]=some #[.slice ka k.length kc,.bool false,.slice va bs.length vc]):=built_raw2 _ _ _ _ _ _;have HBW:=hidden (Below.refl w.heap.size w);generalize hEE:rfE (noc cs) R [⟨.slice ka k.length kc,k,false,bs,.slice va bs.length vc⟩]=E at *;obtain ⟨kl,hkl⟩:∃kl,kl=k.length:=⟨_,rfl⟩;obtain ⟨bl,hbl⟩:∃bl,bl=bs.length:=⟨_,rfl⟩;rw [← hkl,← hbl] at HRef HRA HBR hEE ⊢;have zE:(E != 0)=true:=by simp [hE]
    clear hkl hbl;go_enter Tryz.func29,Tryz.ntmps29
    go_wp2_with (first
      |((with_reducible refine at_bdd 13 ?_);refine wpList_bld _ rfl _ _ rfl _ (by rw [List.map_toArray];exact HBR.out) ?_)
      |(refine wpList_bsr1 _ rfl _ rfl [.slice ka kl kc,.bool false,.slice va bl vc] rfl rfl ?_;intro x1 gr Br b1;have HQ1:=hidden (grow_trans HBW.out b1);have HRw:=hidden (HRA.out _ _ HQ1.out Br);clear Br b1)
      |(go_at_call 87;refine (HRef.out _ _ HQ1.out HRw.out).mono ?_;rintro e x2 ⟨rfl,b2⟩;have HQ2:=hidden (grow_trans HQ1.out b2);clear b2))
    go_ret;exact ⟨rfl,.inl ⟨hE,HQ2.out⟩⟩
end

end Go.Proofs.YtdjpigfibafokaaGreatDoor

namespace Go.Proofs.YtdjpigfibafokaaGreatDoor
variable {R b d fuel g gs i j n o room top x:Nat}
variable {S fr pend:List Nat}
variable {T:Tre}
variable {bs:Lq}
variable {cs cs':Lz}
variable {kv v:Value}
variable {w w':World}
set_option maxHeartbeats 4000000
set_option maxRecDepth 20000
open Go.RowKit

theorem oside_any {ct:Int→Nat} {ca:Int→Ce} (V:Vw w v true ct ca) (h:Int) (K:Lq) (hK:Key K) (hk:(ca h).kind=2) (hd:(ca h).dp<256):Kc 226 #[v,.int .i64 h,.agg (B K)] w fun e w'=>e=.returned (.int .i64 ((if kb K (ca h).dp=1 then (ca h).l else (ca h).r:Nat):Int))∧Kb w w':=by
  have HSD:Hid (Kr w 132 #[v,.int .i64 h] (.tuple #[.int .i64 ((ca h).l:Int),.int .i64 ((ca h).r:Int)])):=fun w' hb=>sides_any (V.grow hb) h
  have HDP:Hid (Kr w 192 #[v,.int .i64 h] (.int .i64 ((ca h).dp:Int))):=fun w' hb=>by
    have:=depth_any (V.grow hb) h;rwa [show vDp true (ca h)=((ca h).dp:Int) by simp [vDp,hk]] at this
  have HBT:Hid (∀w',Kc 180 #[.agg (B K),.int .i64 ((ca h).dp:Int)] w' fun e w''=>e=.returned (.int .i64 (kb K (ca h).dp))∧Below w'.heap.size w' w''):=fun w'=>by
    have:=bit_any K ((ca h).dp:Int) w' hK;rwa [kbi_in K _ hd] at this
  have HPL:=hidden (pth_ln K hK.1);clear V hk hd hK;generalize (ca h).l=l at HSD ⊢;generalize (ca h).r=r at HSD ⊢;generalize (ca h).dp=d at HDP HBT ⊢;have hq:=kb_two K d;generalize kb K d=q at HBT hq ⊢;generalize hdd:(d:Int)=dd at HDP HBT;clear hdd;rcases hq with rfl | rfl
  · rw [if_neg (by omega)]
    go_enter Tryz.func226,Tryz.ntmps226
    go_wp2_with (first
      |((with_reducible refine at_bxd 5 ?_);refine wpList_bx _ rfl _ _ rfl _ rfl ?_;intro w1 b5 hg5 hl5 B5 q5;have HB5:=hidden B5;have HQ5:=hidden q5;clear hg5 hl5 B5 q5)
      |(go_at_call 132;refine (HSD.out _ HQ5.out).mono ?_;rintro e w2 ⟨rfl,b2⟩;have HB52:=hidden (HB5.out.grow b2);have HQ2:=hidden (grow_trans HQ5.out b2);clear b2))
    refine wp_region_held_drew (S:=fun w'=>Kb w2 w') (by kernel_rfl) ((below_drewN (Below.refl _ _) 1)) (fun hHeld=>?_);refine tkg 0 (.agg (B K)) rfl (yieldsIf_load_mid rfl 63 (.tmp 5) rfl b5 0 rfl (B K).toList _ (fun w hS=>(HB52.out.grow hS).range) Tryz.underlying63 rfl HPL.out) hHeld ?_;simp only [Act.put,zq1,zq2,zq4,zq5,zq6];refine tkp 1 v hHeld ?_;simp only [Act.put,zq1,zq2,zq3,zq4,zq5,zq6];refine tkp 2 (.int .i64 h) hHeld ?_;simp only [Act.put,zq1,zq2,zq3,zq4,zq5,zq6];refine wpAnyH_ready (rs:=[3]) (by kernel_rfl) (by simp) ?_;refine AllReadyH.cons rfl (fun KQ hK=>?_) AllReadyH.nil;go_simp;refine (HDP.out _ (grow_trans HQ2.out hHeld)).mono ?_;rintro e z1 ⟨rfl,a1⟩;refine hK.out _ _ (grow_trans hHeld a1) (fun hHeld=>?_);clear hK KQ;refine wpAnyH_ready (rs:=[4]) (by kernel_rfl) (by simp) ?_;refine AllReadyH.cons rfl (fun KQ hK=>?_) AllReadyH.nil;go_simp;refine (HBT.out _).mono ?_;rintro e z2 ⟨rfl,a2⟩;refine hK.out _ _ (grow_trans hHeld a2) (fun hHeld=>?_);clear hK KQ;refine tkp 5 (.bool false) hHeld ?_;simp only [Act.put,zq1,zq2,zq3,zq4,zq5,zq6];refine wpAnyH_done (by kernel_rfl) ?_ _;go_wp2
    go_ret;exact ⟨rfl,grow_trans HQ2.out hHeld⟩
  · rw [if_pos rfl]
    go_enter Tryz.func226,Tryz.ntmps226
    go_wp2_with (first
      |((with_reducible refine at_bxd 5 ?_);refine wpList_bx _ rfl _ _ rfl _ rfl ?_;intro w1 b5 hg5 hl5 B5 q5;have HB5:=hidden B5;have HQ5:=hidden q5;clear hg5 hl5 B5 q5)
      |(go_at_call 132;refine (HSD.out _ HQ5.out).mono ?_;rintro e w2 ⟨rfl,b2⟩;have HB52:=hidden (HB5.out.grow b2);have HQ2:=hidden (grow_trans HQ5.out b2);clear b2))
    refine wp_region_held_drew (S:=fun w'=>Kb w2 w') (by kernel_rfl) ((below_drewN (Below.refl _ _) 1)) (fun hHeld=>?_);refine tkg 0 (.agg (B K)) rfl (yieldsIf_load_mid rfl 63 (.tmp 5) rfl b5 0 rfl (B K).toList _ (fun w hS=>(HB52.out.grow hS).range) Tryz.underlying63 rfl HPL.out) hHeld ?_;simp only [Act.put,zq1,zq2,zq4,zq5,zq6];refine tkp 1 v hHeld ?_;simp only [Act.put,zq1,zq2,zq3,zq4,zq5,zq6];refine tkp 2 (.int .i64 h) hHeld ?_;simp only [Act.put,zq1,zq2,zq3,zq4,zq5,zq6];refine wpAnyH_ready (rs:=[3]) (by kernel_rfl) (by simp) ?_;refine AllReadyH.cons rfl (fun KQ hK=>?_) AllReadyH.nil;go_simp;refine (HDP.out _ (grow_trans HQ2.out hHeld)).mono ?_;rintro e z1 ⟨rfl,a1⟩;refine hK.out _ _ (grow_trans hHeld a1) (fun hHeld=>?_);clear hK KQ;refine wpAnyH_ready (rs:=[4]) (by kernel_rfl) (by simp) ?_;refine AllReadyH.cons rfl (fun KQ hK=>?_) AllReadyH.nil;go_simp;refine (HBT.out _).mono ?_;rintro e z2 ⟨rfl,a2⟩;refine hK.out _ _ (grow_trans hHeld a2) (fun hHeld=>?_);clear hK KQ;refine tkp 5 (.bool true) hHeld ?_;simp only [Act.put,zq1,zq2,zq3,zq4,zq5,zq6];refine wpAnyH_done (by kernel_rfl) ?_ _;go_wp2
    go_ret;exact ⟨rfl,grow_trans HQ2.out hHeld⟩

def FnPost (hs:List Nat) (b:Bool) (w:World) (e:Ending) (w':World):Prop:=
  ∃a c,e=.returned (.tuple #[.slice a hs.length c,.bool b])∧w'.ownsRow w.heap.size 3 1 (.slice a hs.length c) hs.length (nats hs)∧Kb w w'

theorem dfind_any (V:Vw w v true (cot cs) (cat cs)) (W:Wf cs pend) (h:Nat) (T:Tre) (hT:IsT cs h T) (K:Lq) (hK:Key K) (he:vRt true (cot cs h) (cat cs h) h=0):Kc 161 #[v,.int .i64 (h:Int),.agg (B K)] w (FnPost (T.hs K h) (fnd (T.efin K) K).2 w):=by
  have HPS:Hid ((Tryz.prog.info? 63).map (·.size)=some (B K).size):=by show _=_;rw [B_size,hK.1];exact size_path
  have HPL:=hidden (pth_ln K hK.1);have HHE:Hid (∀w',Kb w w'→Kc 148 #[v,.int .i64 (h:Int),.agg (B K)] w' fun e w''=>∃a c,e=.returned (.tuple #[.slice a (T.hs K h).length c,.int .i64 (T.fin K h:Int),.int .i64 0])∧w''.ownsRow w'.heap.size 3 1 (.slice a (T.hs K h).length c) (T.hs K h).length (nats (T.hs K h))∧Below w'.heap.size w' w''):=fun w' hb=>handles_any (V.grow hb) W h T hT K hK he
  have HKD:Hid (Kr w 149 #[v,.int .i64 (T.fin K h:Int)] (.int .u8 (sdC cs (T.fin K h)).kind)):=fun w' hb=>by
    have:=kind_any (V.grow hb) (T.fin K h:Int);rwa [cat_nat] at this
  have HKY:Hid (Kr w 150 #[v,.int .i64 (T.fin K h:Int)] (.agg (B (sdC cs (T.fin K h)).key))):=fun w' hb=>by
    have:=key_any (V.grow hb) (T.fin K h:Int);rwa [cat_nat] at this
  have HPost:Hid (∀a c w',w'.ownsRow w.heap.size 3 1 (.slice a (T.hs K h).length c) (T.hs K h).length (nats (T.hs K h))→Kb w w'→FnPost (T.hs K h) (fnd (T.efin K) K).2 w (.returned (.tuple #[.slice a (T.hs K h).length c,.bool (fnd (T.efin K) K).2])) w'):=fun a c w' h1 h2=>⟨a,c,rfl,h1,h2⟩
  generalize FnPost (T.hs K h) (fnd (T.efin K) K).2 w=P at HPost ⊢;generalize nats (T.hs K h)=nss at HHE HPost;generalize (T.hs K h).length=hn at HHE HPost;generalize (h:Int)=hh at HHE ⊢;rcases fin_is K T h hT with ⟨f1,f2⟩ | ⟨k,b,f1,f2,f3,f4,f5,f6⟩
  · rw [f1] at HKD HHE
    rw [f2] at HPost;have e1:(sdC cs 0).kind=0:=rfl;have e2:(fnd [] K).2=false:=rfl;rw [e1] at HKD;rw [e2] at HPost;generalize ((0:Nat):Int)=fin at HKD HHE;clear V W hT hK he HKY f1 f2 e1 e2;go_enter Tryz.func161,Tryz.ntmps161
    go_wp2_with (first
      |((with_reducible refine at_bxd 5 ?_);refine wpList_bx _ rfl _ _ rfl _ rfl ?_;intro w1 b5 hg5 hl5 B5 q5;have HB5:=hidden B5;have HQ5:=hidden q5;clear hg5 hl5 B5 q5)
      |((with_reducible refine at_ldd 13 5 ?_);refine wpList_ld _ rfl _ _ rfl b5 _ rfl HB5.out _ _ Tryz.underlying63 HPS.out ?_)
      |(go_at_call 148;refine (HHE.out _ HQ5.out).mono ?_;rintro e w2 ⟨ha,hc,rfl,o2,b2⟩;have HO2:=hidden (owR_base o2 HQ5.out.size);have HB52:=hidden (HB5.out.grow b2);have HQ2:=hidden (grow_trans HQ5.out b2);clear b2 o2))
    refine wp_region_held_drew (S:=fun w'=>Kb w2 w') (by kernel_rfl) ((below_drewN (Below.refl _ _) 1)) (fun hHeld=>?_);refine tkp 0 (.slice ha hn hc) hHeld ?_;simp only [Act.put,zq1,zq2,zq4,zq5,zq6];refine tkp 1 v hHeld ?_;simp only [Act.put,zq1,zq2,zq3,zq4,zq5,zq6];refine tkp 2 (.int .i64 fin) hHeld ?_;simp only [Act.put,zq1,zq2,zq3,zq4,zq5,zq6];refine wpAnyH_ready (rs:=[3]) (by kernel_rfl) (by simp) ?_;refine AllReadyH.cons rfl (fun KQ hK=>?_) AllReadyH.nil;go_simp;refine (HKD.out _ (grow_trans HQ2.out hHeld)).mono ?_;rintro e z1 ⟨rfl,a1⟩;refine hK.out _ _ (grow_trans hHeld a1) (fun hHeld=>?_);clear hK KQ;refine tkp 4 (.bool false) hHeld ?_;simp only [Act.put,zq1,zq2,zq3,zq4,zq5,zq6];refine tkp 5 (.bool false) hHeld ?_;simp only [Act.put,zq1,zq2,zq3,zq4,zq5,zq6];refine tks 6 hHeld ?_;simp only [Act.put,zq1,zq2,zq3,zq4,zq5,zq6];refine tks 7 hHeld ?_;simp only [Act.put,zq1,zq2,zq3,zq4,zq5,zq6];refine tks 8 hHeld ?_;simp only [Act.put,zq1,zq2,zq3,zq4,zq5,zq6];refine tks 9 hHeld ?_;simp only [Act.put,zq1,zq2,zq3,zq4,zq5,zq6];refine tks 10 hHeld ?_;simp only [Act.put,zq1,zq2,zq3,zq4,zq5,zq6];refine tkp 11 (.bool false) hHeld ?_;simp only [Act.put,zq1,zq2,zq3,zq4,zq5,zq6];refine tkp 12 (.slice ha hn hc) hHeld ?_;simp only [Act.put,zq1,zq2,zq3,zq4,zq5,zq6];refine tkp 13 (.bool false) hHeld ?_;simp only [Act.put,zq1,zq2,zq3,zq4,zq5,zq6];refine wpAnyH_done (by kernel_rfl) ?_ _;have HH:=hidden hHeld;clear hHeld
    go_wp2_with fail
    exact HPost.out _ _ _ (owR_grow HO2.out HH.out) (grow_trans HQ2.out HH.out)
  · have es:sdC cs (T.fin K h)=ce cs (T.fin K h-1):=if_neg (by omega)
    have hk:Key k:=((tree_ok W T h hT).ent (k,b) (efin_mem K T (k,b) (by rw [f1];simp))).1;rw [es,f4] at HKD;rw [es,f5] at HKY;rw [f1] at HPost;have hE:=path_eq k K hk.1 hK.1;generalize (T.fin K h:Int)=fin at HKD HHE HKY
    by_cases hq:k=K
    · simp only [hq,decide_true] at hE
      have e2:(fnd [(k,b)] K).2=true:=by simp [fnd,hq]
      rw [e2] at HPost;rw [hq] at HKY;clear V W hT hK he f1 f2 f3 f4 f5 f6 es hk hq e2;go_enter Tryz.func161,Tryz.ntmps161
      go_wp2_with (first
        |((with_reducible refine at_bxd 5 ?_);refine wpList_bx _ rfl _ _ rfl _ rfl ?_;intro w1 b5 hg5 hl5 B5 q5;have HB5:=hidden B5;have HQ5:=hidden q5;clear hg5 hl5 B5 q5)
        |((with_reducible refine at_ldd 13 5 ?_);refine wpList_ld _ rfl _ _ rfl b5 _ rfl HB5.out _ _ Tryz.underlying63 HPS.out ?_)
        |(go_at_call 148;refine (HHE.out _ HQ5.out).mono ?_;rintro e w2 ⟨ha,hc,rfl,o2,b2⟩;have HO2:=hidden (owR_base o2 HQ5.out.size);have HB52:=hidden (HB5.out.grow b2);have HQ2:=hidden (grow_trans HQ5.out b2);clear b2 o2))
      refine wp_region_held_drew (S:=fun w'=>Kb w2 w') (by kernel_rfl) ((below_drewN (Below.refl _ _) 1)) (fun hHeld=>?_);refine tkp 0 (.slice ha hn hc) hHeld ?_;simp only [Act.put,zq1,zq2,zq4,zq5,zq6];refine tkp 1 v hHeld ?_;simp only [Act.put,zq1,zq2,zq3,zq4,zq5,zq6];refine tkp 2 (.int .i64 fin) hHeld ?_;simp only [Act.put,zq1,zq2,zq3,zq4,zq5,zq6];refine wpAnyH_ready (rs:=[3]) (by kernel_rfl) (by simp) ?_;refine AllReadyH.cons rfl (fun KQ hK=>?_) AllReadyH.nil;go_simp;refine (HKD.out _ (grow_trans HQ2.out hHeld)).mono ?_;rintro e z1 ⟨rfl,a1⟩;refine hK.out _ _ (grow_trans hHeld a1) (fun hHeld=>?_);clear hK KQ;refine tkp 4 (.bool true) hHeld ?_;simp only [Act.put,zq1,zq2,zq3,zq4,zq5,zq6];refine tkp 5 (.bool true) hHeld ?_;simp only [Act.put,zq1,zq2,zq3,zq4,zq5,zq6];refine tkp 6 v hHeld ?_;simp only [Act.put,zq1,zq2,zq3,zq4,zq5,zq6];refine tkp 7 (.int .i64 fin) hHeld ?_;simp only [Act.put,zq1,zq2,zq3,zq4,zq5,zq6];refine tkg 9 (.agg (B K)) rfl (yieldsIf_load_mid rfl 63 (.tmp 5) rfl b5 0 rfl (B K).toList _ (fun w hS=>(HB52.out.grow hS).range) Tryz.underlying63 rfl HPL.out) hHeld ?_;simp only [Act.put,zq1,zq2,zq3,zq4,zq5,zq6];refine wpAnyH_ready (rs:=[8]) (by kernel_rfl) (by simp) ?_;refine AllReadyH.cons rfl (fun KQ hK=>?_) AllReadyH.nil;go_simp;refine (HKY.out _ (grow_trans HQ2.out hHeld)).mono ?_;rintro e z2 ⟨rfl,a2⟩;refine hK.out _ _ (grow_trans hHeld a2) (fun hHeld=>?_);clear hK KQ;refine tkp 10 (.bool true) hHeld ?_;simp only [Act.put,zq1,zq2,zq3,zq4,zq5,zq6];refine tkp 11 (.bool true) hHeld ?_;simp only [Act.put,zq1,zq2,zq3,zq4,zq5,zq6];refine tkp 12 (.slice ha hn hc) hHeld ?_;simp only [Act.put,zq1,zq2,zq3,zq4,zq5,zq6];refine tkp 13 (.bool true) hHeld ?_;simp only [Act.put,zq1,zq2,zq3,zq4,zq5,zq6];refine wpAnyH_done (by kernel_rfl) ?_ _;have HH:=hidden hHeld;clear hHeld
      go_wp2_with fail
      exact HPost.out _ _ _ (owR_grow HO2.out HH.out) (grow_trans HQ2.out HH.out)
    · simp only [hq,decide_false] at hE
      have e2:(fnd [(k,b)] K).2=false:=by simp [fnd,hq]
      rw [e2] at HPost;clear V W hT hK he f1 f2 f3 f4 f5 f6 es hk hq e2;go_enter Tryz.func161,Tryz.ntmps161
      go_wp2_with (first
        |((with_reducible refine at_bxd 5 ?_);refine wpList_bx _ rfl _ _ rfl _ rfl ?_;intro w1 b5 hg5 hl5 B5 q5;have HB5:=hidden B5;have HQ5:=hidden q5;clear hg5 hl5 B5 q5)
        |((with_reducible refine at_ldd 13 5 ?_);refine wpList_ld _ rfl _ _ rfl b5 _ rfl HB5.out _ _ Tryz.underlying63 HPS.out ?_)
        |(go_at_call 148;refine (HHE.out _ HQ5.out).mono ?_;rintro e w2 ⟨ha,hc,rfl,o2,b2⟩;have HO2:=hidden (owR_base o2 HQ5.out.size);have HB52:=hidden (HB5.out.grow b2);have HQ2:=hidden (grow_trans HQ5.out b2);clear b2 o2))
      refine wp_region_held_drew (S:=fun w'=>Kb w2 w') (by kernel_rfl) ((below_drewN (Below.refl _ _) 1)) (fun hHeld=>?_);refine tkp 0 (.slice ha hn hc) hHeld ?_;simp only [Act.put,zq1,zq2,zq4,zq5,zq6];refine tkp 1 v hHeld ?_;simp only [Act.put,zq1,zq2,zq3,zq4,zq5,zq6];refine tkp 2 (.int .i64 fin) hHeld ?_;simp only [Act.put,zq1,zq2,zq3,zq4,zq5,zq6];refine wpAnyH_ready (rs:=[3]) (by kernel_rfl) (by simp) ?_;refine AllReadyH.cons rfl (fun KQ hK=>?_) AllReadyH.nil;go_simp;refine (HKD.out _ (grow_trans HQ2.out hHeld)).mono ?_;rintro e z1 ⟨rfl,a1⟩;refine hK.out _ _ (grow_trans hHeld a1) (fun hHeld=>?_);clear hK KQ;refine tkp 4 (.bool true) hHeld ?_;simp only [Act.put,zq1,zq2,zq3,zq4,zq5,zq6];refine tkp 5 (.bool true) hHeld ?_;simp only [Act.put,zq1,zq2,zq3,zq4,zq5,zq6];refine tkp 6 v hHeld ?_;simp only [Act.put,zq1,zq2,zq3,zq4,zq5,zq6];refine tkp 7 (.int .i64 fin) hHeld ?_;simp only [Act.put,zq1,zq2,zq3,zq4,zq5,zq6];refine tkg 9 (.agg (B K)) rfl (yieldsIf_load_mid rfl 63 (.tmp 5) rfl b5 0 rfl (B K).toList _ (fun w hS=>(HB52.out.grow hS).range) Tryz.underlying63 rfl HPL.out) hHeld ?_;simp only [Act.put,zq1,zq2,zq3,zq4,zq5,zq6];refine wpAnyH_ready (rs:=[8]) (by kernel_rfl) (by simp) ?_;refine AllReadyH.cons rfl (fun KQ hK=>?_) AllReadyH.nil;go_simp;refine (HKY.out _ (grow_trans HQ2.out hHeld)).mono ?_;rintro e z2 ⟨rfl,a2⟩;refine hK.out _ _ (grow_trans hHeld a2) (fun hHeld=>?_);clear hK KQ;refine tkp 10 (.bool false) hHeld ?_;simp only [Act.put,zq1,zq2,zq3,zq4,zq5,zq6];refine tkp 11 (.bool false) hHeld ?_;simp only [Act.put,zq1,zq2,zq3,zq4,zq5,zq6];refine tkp 12 (.slice ha hn hc) hHeld ?_;simp only [Act.put,zq1,zq2,zq3,zq4,zq5,zq6];refine tkp 13 (.bool false) hHeld ?_;simp only [Act.put,zq1,zq2,zq3,zq4,zq5,zq6];refine wpAnyH_done (by kernel_rfl) ?_ _;have HH:=hidden hHeld;clear hHeld
      go_wp2_with fail
      exact HPost.out _ _ _ (owR_grow HO2.out HH.out) (grow_trans HQ2.out HH.out)

theorem oside_at (V:Vw w v true (cot cs) (cat cs)) (W:Wf cs pend) (h:Nat) (T:Tre) (hT:IsT cs h T) (K:Lq) (hK:Key K) (hrd:(sdC cs h).kind=2→(sdC cs h).dp=0) {a:Option Addr} (hI:Ints9 w a (T.hs K h)):∀k,k<(T.hs K h).length→∃(x o:Nat),(∃lb,a=some ⟨lb,0,none⟩∧w.cell? ⟨lb,k,none⟩=some (.int .i64 (x:Int)))∧(T.oth K)[k]?=some o∧(Kr w 226 #[v,.int .i64 (x:Int),.agg (B K)] (.int .i64 (o:Int))):=fun k hk=>by
  obtain ⟨x,a1,a2,a3,a4,a5,a6,a7,a8⟩:=hs_at W K T h 0 hT hrd k hk;rw [Nat.zero_add] at a5 a6 a7;obtain ⟨lb,e1,e2⟩:=hI k hk;have hx:(T.hs K h).getD k 0=x:=by rw [List.getD_eq_getElem?_getD,a1];rfl
  rw [hx] at e2;have hca:=cat_is (cs:=cs) a2;refine ⟨x,_,⟨lb,e1,e2⟩,a7,fun w' hb=>?_⟩;have:=oside_any (V.grow hb) (x:Int) K hK (by rw [hca];exact a4) (by rw [hca,a5];exact a6);rw [hca,a5] at this;exact this

def ShPost (a:Option Addr) (c:Nat) (z:Nat×Nat) (w:World) (e:Ending) (w':World):Prop:=e=.returned (.tuple #[.slice a z.1 c,.int .i64 (z.2:Int)])∧Kb w w'

theorem shrink_any (kd:Nat→Int) (K:Lq) (hK:Key K) (a:Option Addr) (n c:Nat) (os:List Nat) (h256:n≤256) (hcap:n≤c) (hkd:∀w' (o:Nat),Kb w w'→Kc 149 #[v,.int .i64 (o:Int)] w' fun e w''=>e=.returned (.int .u8 (kd o))∧Below w'.heap.size w' w'') (hat:∀k,k<n→∃(x o:Nat),(∃lb,a=some ⟨lb,0,none⟩∧w.cell? ⟨lb,k,none⟩=some (.int .i64 (x:Int)))∧os[k]?=some o∧(Kr w 226 #[v,.int .i64 (x:Int),.agg (B K)] (.int .i64 (o:Int)))):
    Kc 162 #[v,.slice a n c,.agg (B K)] w (ShPost a c (shk kd os n 0) w):=by
  have HAX:=hidden hat;have HKX:=hidden hkd;have HPL:=hidden (pth_ln K hK.1);have HM:=hidden h256;have HC:=hidden hcap;have HPost:Hid (∀(m f:Nat) w',shk kd os n 0=(m,f)→Kb w w'→ShPost a c (shk kd os n 0) w (.returned (.tuple #[.slice a m c,.int .i64 (f:Int)])) w'):=fun m f w' h1 h2=>by rw [h1];exact ⟨rfl,h2⟩
  generalize hz:shk kd os n 0=z at HPost ⊢;generalize ShPost a c z w=P at HPost ⊢;have HZ:=hidden hz;clear hat hkd h256 hcap hK hz;go_enter Tryz.func162,Tryz.ntmps162
  go_wp2_with (first
    |((with_reducible refine at_bxd 5 ?_);refine wpList_bx _ rfl _ _ rfl _ rfl ?_;intro w1 b5 hg5 hl5 B5 q5;have HB5:=hidden B5;have HQ5:=hidden q5;clear hg5 hl5 B5 q5))
  go_step3
  go_wp2_with (first
    |((with_reducible refine at_bxd 5 ?_);refine wpList_bx _ rfl _ _ rfl _ rfl ?_;intro w1 b5 hg5 hl5 B5 q5;have HB5:=hidden B5;have HQ5:=hidden q5;clear hg5 hl5 B5 q5))
  go_step3
  go_wp2_with fail
  go_loopw [6,7] (fun sv fv wr=>∃(m f:Nat),m≤n∧sv=.slice a m c∧fv=.int .i64 (f:Int)∧Hid (shk kd os m f=z)∧Hid (Kb w1 wr)) (fun sv _ _=>sLen sv)
  case atStart=>exact ⟨n,0,Nat.le_refl _,rfl,rfl,HZ.out,Below.refl _ _⟩
  case round=>
    obtain ⟨m,f,hmn,rfl,rfl,hS,hB⟩:=hrel;cases m with
    | zero=>
      have HP:Hid (P (.returned (.tuple #[.slice a 0 c,.int .i64 (f:Int)])) wr):=HPost.out 0 f wr (by rw [← hS.out];rfl) (grow_trans HQ5.out hB.out);generalize (f:Int)=fy at HP ⊢;clear hS
      go_wp2_with fail
      first | exact HP.out | (rw [Exit.noGoto_ret];exact HP.out)
    | succ m=>
      obtain ⟨x,o,⟨lb,rfl,hcl0⟩,ho,hos⟩:=HAX.out m (by omega);have hcl:=below_cell (grow_trans HQ5.out hB.out) hcl0;have HCL:=hidden hcl;have HOS:=hidden hos;have HBK:=hidden (HB5.out.grow hB.out);have HBW:=hidden (grow_trans HQ5.out hB.out);have hog:os.getD m 0=o:=by rw [List.getD_eq_getElem?_getD,ho];rfl
      have hmc:m+1≤c:=Nat.le_trans hmn HC.out;have HMN:=hidden hmn;have hm256:m<256:=by have:=HM.out;omega
      have HKD:Hid (Kr w 149 #[v,.int .i64 (o:Int)] (.int .u8 (kd o))):=fun w' hb=>HKX.out w' o hb
      have hs1:=hS.out;rw [shk,hog] at hs1;generalize (x:Int)=xy at hcl HCL HOS;have k0:(0:Int)≤(m:Int):=by omega
      have k1:(m:Int)<(m:Int)+1:=by omega
      have k1':(m:Int)<((m+1:Nat):Int):=by omega
      have k2:(m:Int)≤(c:Int):=by omega
      have k3:(0:Int)<((m+1:Nat):Int):=by omega
      have hwm:wrap64 (m:Int)=(m:Int):=Go.IntWalk.wrap64_in _ (by omega);clear hmn hmc hcl0 hos ho hog hS HKX HAX HC HM
      by_cases o0:o=0
      · subst o0
        rw [if_pos rfl] at hs1;have HS1:=hidden hs1;obtain ⟨oy,hoy⟩:∃y:Int,y=((0:Nat):Int):=⟨_,rfl⟩;rw [← hoy] at HOS HKD;have oz:oy=0:=hoy;subst oz;clear hs1 hoy HKD
        go_wp2_with fail
        refine wp_region_held_drew (S:=fun w'=>Kb wr w') (by kernel_rfl) ((below_drewN (Below.refl _ _) 1)) (fun hHeld=>?_);refine tkp 0 v hHeld ?_;simp only [Act.put,zq1,zq2,zq4,zq5,zq6];refine tkp 1 (.slice (some ⟨lb,0,none⟩) (m+1) c) hHeld ?_;simp only [Act.put,zq1,zq2,zq3,zq4,zq5,zq6];refine tkp 2 (.int .i64 (m:Int)) hHeld ?_;simp only [Act.put,zq1,zq2,zq3,zq4,zq5,zq6];refine tkp 3 (.pointer (some ⟨lb,m,none⟩)) hHeld ?_;simp only [Act.put,zq1,zq2,zq3,zq4,zq5,zq6];refine tkg 4 (.int .i64 xy) rfl (Or.inl ⟨by rfl,fun w hS=>by (have q1:=below_cell hS HCL.out;go_simp)⟩) hHeld ?_;simp only [Act.put,zq1,zq2,zq3,zq4,zq5,zq6];refine tkg 5 (.agg (B K)) rfl (yieldsIf_load_mid rfl 63 (.tmp 5) rfl b5 0 rfl (B K).toList _ (fun w hS=>(HBK.out.grow hS).range) Tryz.underlying63 rfl HPL.out) hHeld ?_;simp only [Act.put,zq1,zq2,zq3,zq4,zq5,zq6];refine wpAnyH_ready (rs:=[6]) (by kernel_rfl) (by simp) ?_;refine AllReadyH.cons rfl (fun KQ hK=>?_) AllReadyH.nil;go_simp;refine (HOS.out _ (grow_trans HBW.out hHeld)).mono ?_;rintro e z1 ⟨rfl,a1⟩;refine hK.out _ _ (grow_trans hHeld a1) (fun hHeld=>?_);clear hK KQ;refine tkp 7 (.int .i64 0) hHeld ?_;simp only [Act.put,zq1,zq2,zq3,zq4,zq5,zq6];refine wpAnyH_done (by kernel_rfl) ?_ _;have HH:=hidden (grow_trans HBW.out hHeld);have HHr:=hidden (grow_trans hB.out hHeld);clear hHeld hcl
        go_wp2_with fail
        exact ⟨⟨m,f,by have:=HMN.out;omega,rfl,rfl,HS1.out,HHr.out⟩,by simp only [sLen];omega⟩
      · rw [if_neg o0] at hs1
        have oz: ¬(o:Int)=0:=by omega
        by_cases f0:f=0
        · by_cases kq:kd o=1
          · rw [if_pos ⟨f0,kq⟩] at hs1
            have HS1:=hidden hs1;rw [kq] at HKD;subst f0;obtain ⟨oy,hoy⟩:∃y:Int,y=(o:Int):=⟨_,rfl⟩;rw [← hoy] at HOS HKD oz;have HOY:=hidden hoy;clear hs1 hoy o0 kq
            go_wp2_with fail
            refine wp_region_held_drew (S:=fun w'=>Kb wr w') (by kernel_rfl) ((below_drewN (Below.refl _ _) 1)) (fun hHeld=>?_);refine tkp 0 v hHeld ?_;simp only [Act.put,zq1,zq2,zq4,zq5,zq6];refine tkp 1 (.slice (some ⟨lb,0,none⟩) (m+1) c) hHeld ?_;simp only [Act.put,zq1,zq2,zq3,zq4,zq5,zq6];refine tkp 2 (.int .i64 (m:Int)) hHeld ?_;simp only [Act.put,zq1,zq2,zq3,zq4,zq5,zq6];refine tkp 3 (.pointer (some ⟨lb,m,none⟩)) hHeld ?_;simp only [Act.put,zq1,zq2,zq3,zq4,zq5,zq6];refine tkg 4 (.int .i64 xy) rfl (Or.inl ⟨by rfl,fun w hS=>by (have q1:=below_cell hS HCL.out;go_simp)⟩) hHeld ?_;simp only [Act.put,zq1,zq2,zq3,zq4,zq5,zq6];refine tkg 5 (.agg (B K)) rfl (yieldsIf_load_mid rfl 63 (.tmp 5) rfl b5 0 rfl (B K).toList _ (fun w hS=>(HBK.out.grow hS).range) Tryz.underlying63 rfl HPL.out) hHeld ?_;simp only [Act.put,zq1,zq2,zq3,zq4,zq5,zq6];refine wpAnyH_ready (rs:=[6]) (by kernel_rfl) (by simp) ?_;refine AllReadyH.cons rfl (fun KQ hK=>?_) AllReadyH.nil;go_simp;refine (HOS.out _ (grow_trans HBW.out hHeld)).mono ?_;rintro e z1 ⟨rfl,a1⟩;refine hK.out _ _ (grow_trans hHeld a1) (fun hHeld=>?_);clear hK KQ;refine tkp 7 (.int .i64 oy) hHeld ?_;simp only [Act.put,zq1,zq2,zq3,zq4,zq5,zq6];refine wpAnyH_done (by kernel_rfl) ?_ _;have HH:=hidden (grow_trans HBW.out hHeld);have HHr:=hidden (grow_trans hB.out hHeld);clear hHeld hcl
            go_wp2_with (first
              |(go_at_call 149;refine (HKD.out _ HH.out).mono ?_;rintro e z2 ⟨rfl,a2⟩;replace HHr:=hidden (grow_trans HHr.out a2);clear a2))
            exact ⟨⟨m,o,by have:=HMN.out;omega,rfl,by rw [HOY.out],HS1.out,HHr.out⟩,by simp only [sLen];omega⟩
          · rw [if_neg (fun q=>kq q.2)] at hs1
            have HP:Hid (∀w',Kb w1 w'→P (.returned (.tuple #[.slice (some ⟨lb,0,none⟩) (m+1) c,.int .i64 (f:Int)])) w'):=fun w' hb=>HPost.out (m+1) f w' hs1.symm (grow_trans HQ5.out hb)
            subst f0;generalize kd o=kk at HKD kq;have kq2:(kk == 1)=false:=by simpa using kq
            generalize (o:Int)=oy at HOS HKD oz;clear hs1 HPost o0
            go_wp2_with fail
            refine wp_region_held_drew (S:=fun w'=>Kb wr w') (by kernel_rfl) ((below_drewN (Below.refl _ _) 1)) (fun hHeld=>?_);refine tkp 0 v hHeld ?_;simp only [Act.put,zq1,zq2,zq4,zq5,zq6];refine tkp 1 (.slice (some ⟨lb,0,none⟩) (m+1) c) hHeld ?_;simp only [Act.put,zq1,zq2,zq3,zq4,zq5,zq6];refine tkp 2 (.int .i64 (m:Int)) hHeld ?_;simp only [Act.put,zq1,zq2,zq3,zq4,zq5,zq6];refine tkp 3 (.pointer (some ⟨lb,m,none⟩)) hHeld ?_;simp only [Act.put,zq1,zq2,zq3,zq4,zq5,zq6];refine tkg 4 (.int .i64 xy) rfl (Or.inl ⟨by rfl,fun w hS=>by (have q1:=below_cell hS HCL.out;go_simp)⟩) hHeld ?_;simp only [Act.put,zq1,zq2,zq3,zq4,zq5,zq6];refine tkg 5 (.agg (B K)) rfl (yieldsIf_load_mid rfl 63 (.tmp 5) rfl b5 0 rfl (B K).toList _ (fun w hS=>(HBK.out.grow hS).range) Tryz.underlying63 rfl HPL.out) hHeld ?_;simp only [Act.put,zq1,zq2,zq3,zq4,zq5,zq6];refine wpAnyH_ready (rs:=[6]) (by kernel_rfl) (by simp) ?_;refine AllReadyH.cons rfl (fun KQ hK=>?_) AllReadyH.nil;go_simp;refine (HOS.out _ (grow_trans HBW.out hHeld)).mono ?_;rintro e z1 ⟨rfl,a1⟩;refine hK.out _ _ (grow_trans hHeld a1) (fun hHeld=>?_);clear hK KQ;refine tkp 7 (.int .i64 oy) hHeld ?_;simp only [Act.put,zq1,zq2,zq3,zq4,zq5,zq6];refine wpAnyH_done (by kernel_rfl) ?_ _;have HH:=hidden (grow_trans HBW.out hHeld);have HHr:=hidden (grow_trans hB.out hHeld);clear hHeld hcl
            go_wp2_with (first
              |(go_at_call 149;refine (HKD.out _ HH.out).mono ?_;rintro e z2 ⟨rfl,a2⟩;replace HHr:=hidden (grow_trans HHr.out a2);clear a2))
            first | exact HP.out _ HHr.out | (rw [Exit.noGoto_ret];exact HP.out _ HHr.out)
        · rw [if_neg (fun q=>f0 q.1)] at hs1
          have HP:Hid (∀w',Kb w1 w'→P (.returned (.tuple #[.slice (some ⟨lb,0,none⟩) (m+1) c,.int .i64 (f:Int)])) w'):=fun w' hb=>HPost.out (m+1) f w' hs1.symm (grow_trans HQ5.out hb)
          have fz: ¬(f:Int)=0:=by omega
          generalize (f:Int)=fy at HP fz ⊢;generalize (o:Int)=oy at HOS HKD oz;clear hs1 HPost o0 f0 HKD
          go_wp2_with fail
          refine wp_region_held_drew (S:=fun w'=>Kb wr w') (by kernel_rfl) ((below_drewN (Below.refl _ _) 1)) (fun hHeld=>?_);refine tkp 0 v hHeld ?_;simp only [Act.put,zq1,zq2,zq4,zq5,zq6];refine tkp 1 (.slice (some ⟨lb,0,none⟩) (m+1) c) hHeld ?_;simp only [Act.put,zq1,zq2,zq3,zq4,zq5,zq6];refine tkp 2 (.int .i64 (m:Int)) hHeld ?_;simp only [Act.put,zq1,zq2,zq3,zq4,zq5,zq6];refine tkp 3 (.pointer (some ⟨lb,m,none⟩)) hHeld ?_;simp only [Act.put,zq1,zq2,zq3,zq4,zq5,zq6];refine tkg 4 (.int .i64 xy) rfl (Or.inl ⟨by rfl,fun w hS=>by (have q1:=below_cell hS HCL.out;go_simp)⟩) hHeld ?_;simp only [Act.put,zq1,zq2,zq3,zq4,zq5,zq6];refine tkg 5 (.agg (B K)) rfl (yieldsIf_load_mid rfl 63 (.tmp 5) rfl b5 0 rfl (B K).toList _ (fun w hS=>(HBK.out.grow hS).range) Tryz.underlying63 rfl HPL.out) hHeld ?_;simp only [Act.put,zq1,zq2,zq3,zq4,zq5,zq6];refine wpAnyH_ready (rs:=[6]) (by kernel_rfl) (by simp) ?_;refine AllReadyH.cons rfl (fun KQ hK=>?_) AllReadyH.nil;go_simp;refine (HOS.out _ (grow_trans HBW.out hHeld)).mono ?_;rintro e z1 ⟨rfl,a1⟩;refine hK.out _ _ (grow_trans hHeld a1) (fun hHeld=>?_);clear hK KQ;refine tkp 7 (.int .i64 oy) hHeld ?_;simp only [Act.put,zq1,zq2,zq3,zq4,zq5,zq6];refine wpAnyH_done (by kernel_rfl) ?_ _;have HH:=hidden (grow_trans HBW.out hHeld);have HHr:=hidden (grow_trans hB.out hHeld);clear hHeld hcl
          go_wp2_with fail
          first | exact HP.out _ HHr.out | (rw [Exit.noGoto_ret];exact HP.out _ HHr.out)

theorem dbeside_any (K:Lq) (hK:Key K) (a:Option Addr) (m c:Nat) (os:List Nat) (hlen:os.length=m) (h256:m≤256) (hat:∀k,k<m→∃(x o:Nat),(∃lb,a=some ⟨lb,0,none⟩∧w.cell? ⟨lb,k,none⟩=some (.int .i64 (x:Int)))∧os[k]?=some o∧(Kr w 226 #[v,.int .i64 (x:Int),.agg (B K)] (.int .i64 (o:Int)))):Kc 163 #[v,.slice a m c,.agg (B K)] w (BesPost os w):=by
  have HPost:Hid (∀a c w',w'.ownsRow w.heap.size 3 1 (.slice a m c) m (nats os)→Kb w w'→BesPost os w (.returned (.slice a m c)) w'):=fun a c w' h1 h2=>⟨a,c,by rw [hlen],by rw [hlen];exact h1,h2⟩
  have HPS:Hid ((Tryz.prog.info? 63).map (·.size)=some (B K).size):=by show _=_;rw [B_size,hK.1];exact size_path
  have HAX:=hidden hat;have HM256:=hidden h256;have HLEN:=hidden hlen;generalize HE:BesPost os w=P at HPost ⊢;clear hat hlen h256 hK;go_enter Tryz.func163,Tryz.ntmps163
  go_wp2_with (first
    |((with_reducible refine at_bxd 5 ?_);refine wpList_bx _ rfl _ _ rfl _ rfl ?_;intro w1 b5 hg5 hl5 B5 q5;have HB5:=hidden B5;have HQ5:=hidden q5;clear hg5 hl5 B5 q5))
  go_loopw [7,12] (fun sv iv wr=>∃(k:Nat) (sa:Option Addr) (sc:Nat),k≤m∧sv=.slice sa k sc∧iv=.int .i64 (k:Int)∧Hid (wr.ownsRow w1.heap.size 3 1 (.slice sa k sc) k (nats (os.take k)))∧Hid (Kb w1 wr)) (fun _ iv _=>m-(intOf iv).toNat)
  case atStart=>exact ⟨0,none,0,by omega,rfl,rfl,World.ownsRow_nil _ _ _ _,Below.refl _ _⟩
  case round=>
    obtain ⟨k,sa,sc,hk,rfl,rfl,hO,hB⟩:=hrel
    by_cases hlt:k<m
    · obtain ⟨x,o,⟨lb,rfl,hcl0⟩,ho,hos⟩:=HAX.out k hlt
      have hcl:=below_cell (grow_trans HQ5.out hB.out) hcl0;have HOS:=hidden hos;have HTK:Hid (os.take (k+1)=os.take k++[o]):=by
        show _=_;rw [List.take_add_one,ho];rfl
      generalize os.take k=pre at hO HTK;obtain ⟨oy,hoy⟩:∃y:Int,y=(o:Int):=⟨_,rfl⟩;rw [← hoy] at HOS;have HOY:=hidden hoy;have HK256:Hid (k+1≤256):=by have:=HM256.out;show _≤_;omega
      have k0:(0:Int)≤(k:Int):=by omega
      have k1:(k:Int)<(m:Int):=by omega
      have hk256:k<256:=by have:=HM256.out;omega
      have hwk:wrap64 ((k:Int)+1)=((k+1:Nat):Int):=by rw [Go.IntWalk.wrap64_in _ (by omega)];rfl
      generalize (x:Int)=xy at hcl HOS;clear hos hcl0 ho hoy hk HPost
      go_wp2_with (first
        |((with_reducible refine at_ldd 19 5 ?_);refine wpList_ld _ rfl _ _ rfl b5 _ rfl (HB5.out.grow hB.out) _ _ Tryz.underlying63 HPS.out ?_)
        |(go_at_call 226;refine (HOS.out _ (grow_trans HQ5.out hB.out)).mono ?_;rintro e w4 ⟨rfl,b4⟩;have HBW4:=hidden (grow_trans hB.out b4);have HOO4:=hidden (owR_grow (owR_grow hO.out b4) (grow_alloc w4 (.cells #[.int .i64 oy] 3)));clear b4)
        |(at_builtin;refine wpList_appB _ rfl _ _ _ rfl w1.heap.size 3 1 8 Tryz.underlying45 info_nat (by omega) _ k (nats pre) rfl HOO4.out w4.heap.size [Value.int .i64 oy] rfl (Blk.new _ _ _) rfl (by intro u hu;simp at hu;subst hu;rfl) (by have:=HK256.out;simp only [maxLen];omega) (by have:=HK256.out;omega) (Nat.le_trans HBW4.out.size (by simp)) ?_;intro a6 c6 w6 o6 g6;have HO6:=hidden o6;have HB6:=hidden (owR_below (grow_trans HBW4.out (grow_alloc w4 (.cells #[.int .i64 oy] 3))) HOO4.out (Nat.le_refl _) g6);clear o6 g6))
      have ho6:=HO6.out;rw [HOY.out,← nats_snoc,← HTK.out] at ho6;exact ⟨⟨k+1,a6,c6,by omega,rfl,by go_num,ho6,HB6.out⟩,by simp [intOf];exact mea_step k1⟩
    · obtain rfl:k=m:=by omega
      have htk:os.take k=os:=List.take_of_length_le (by rw [HLEN.out];exact Nat.le_refl _);rw [htk] at hO;have nlt: ¬(k:Int)<(k:Int):=by omega
      clear htk hlt hk HAX
      go_wp2_with fail
      exact HPost.out _ _ _ (owR_base hO.out HQ5.out.size) (grow_trans HQ5.out hB.out)

theorem dcountable_any {ct:Int→Nat} {ca:Int→Ce} (V:Vw w v true ct ca) (hct:∀q,ct q<1073741824) (a1 a2:Option Addr) (n1 n2 c1 c2:Nat) (l1 l2:List Nat) (h1:Ints9 w a1 l1) (h2:Ints9 w a2 l2) (e1:n1=l1.length) (e2:n2=l2.length) (m1:n1≤256) (lf:Int):Kc 164 #[v,.slice a1 n1 c1,.slice a2 n2 c2,.int .i64 lf] w fun e w'=>e=.returned (.bool true)∧Kb w w':=by
  have HCT:Hid (∀w' (q:Int),Kb w w'→∃n:Int,n<1073741824∧Kc 72 #[v,.int .i64 q] w' fun e w''=>e=.returned (.int .i64 n)∧w''=w'):=fun w' q hb=>⟨(ct q:Int),by have:=hct q;omega,V.count w' q hb⟩
  have H1:Hid (∀w' k,Kb w w'→k<n1→∃g,a1=some ⟨g,0,none⟩∧∃x:Int,w'.cell? ⟨g,k,none⟩=some (.int .i64 x)):=fun w' k hb hk=>by
    obtain ⟨g,q1,q2⟩:=h1.grow hb k (by omega);exact ⟨g,q1,_,q2⟩
  have H2:Hid (∀w' k,Kb w w'→k<n2→∃g,a2=some ⟨g,0,none⟩∧∃x:Int,w'.cell? ⟨g,k,none⟩=some (.int .i64 x)):=fun w' k hb hk=>by
    obtain ⟨g,q1,q2⟩:=h2.grow hb k (by omega);exact ⟨g,q1,_,q2⟩
  have HM1:=hidden m1;clear V hct h1 h2 e1 e2 m1;go_enter Tryz.func164,Tryz.ntmps164
  go_wp2_with fail
  go_loopw [9,14] (fun sv iv wr=>∃(k:Nat) (b:Bool),k≤n1∧sv=.bool b∧iv=.int .i64 (k:Int)∧Hid (Kb w wr)) (fun _ iv _=>n1-(intOf iv).toNat)
  case atStart=>exact ⟨0,false,by omega,rfl,rfl,Below.refl _ _⟩
  case round=>
    obtain ⟨k,b,hk,rfl,rfl,hB⟩:=hrel
    by_cases hlt:k<n1
    · obtain ⟨g1,rfl,x1,hc1⟩:=H1.out wr k hB.out hlt
      obtain ⟨y1,hy1,HC1⟩:=HCT.out wr x1 hB.out;have HC1:=hidden HC1;have k0:(0:Int)≤(k:Int):=by omega
      have k1:(k:Int)<(n1:Int):=by omega
      have hk257:k<257:=by have:=HM1.out;omega
      have hwk:wrap64 ((k:Int)+1)=((k+1:Nat):Int):=by rw [Go.IntWalk.wrap64_in _ (by omega)];rfl
      clear hy1 hk
      by_cases hl1:k<n2
      · obtain ⟨g2,rfl,x2,hc2⟩:=H2.out wr k hB.out hl1
        obtain ⟨y2,hy2,HC2⟩:=HCT.out wr x2 hB.out;have HC2:=hidden HC2;have l1:(k:Int)<(n2:Int):=by omega
        have y3: ¬y2=1073741824:=by omega
        clear hy2;cases b with
        | true=>
          go_wp2_with (first
            |(go_at_call 72;refine HC2.out.mono ?_;rintro e w' ⟨rfl,hx⟩;rw [hx];clear hx w'))
          exact ⟨⟨k+1,true,by omega,rfl,by go_num,hB.out⟩,by simp [intOf];exact mea_step k1⟩
        | false=>
          by_cases y4:1<y1
          · go_wp2_with (first
              |(go_at_call 72;have mk:=mk1;clear mk;refine HC2.out.mono ?_;rintro e w' ⟨rfl,hx⟩;rw [hx];clear hx w')
              |(go_at_call 72;refine HC1.out.mono ?_;rintro e w' ⟨rfl,hx⟩;rw [hx];clear hx w';have mk1:Hid True:=trivial))
            exact ⟨⟨k+1,true,by omega,rfl,by go_num,hB.out⟩,by simp [intOf];exact mea_step k1⟩
          · go_wp2_with (first
              |(go_at_call 72;refine HC1.out.mono ?_;rintro e w' ⟨rfl,hx⟩;rw [hx];clear hx w'))
            exact ⟨⟨k+1,false,by omega,rfl,by go_num,hB.out⟩,by simp [intOf];exact mea_step k1⟩
      · have l1: ¬(k:Int)<(n2:Int):=by omega
        cases b with
        | true=>
          go_wp2_with fail
          exact ⟨⟨k+1,true,by omega,rfl,by go_num,hB.out⟩,by simp [intOf];exact mea_step k1⟩
        | false=>
          by_cases y4:1<y1
          · go_wp2_with (first
              |(go_at_call 72;refine HC1.out.mono ?_;rintro e w' ⟨rfl,hx⟩;rw [hx];clear hx w'))
            exact ⟨⟨k+1,true,by omega,rfl,by go_num,hB.out⟩,by simp [intOf];exact mea_step k1⟩
          · go_wp2_with (first
              |(go_at_call 72;refine HC1.out.mono ?_;rintro e w' ⟨rfl,hx⟩;rw [hx];clear hx w'))
            exact ⟨⟨k+1,false,by omega,rfl,by go_num,hB.out⟩,by simp [intOf];exact mea_step k1⟩
    · obtain rfl:k=n1:=by omega
      have nlt: ¬(k:Int)<(k:Int):=by omega
      obtain ⟨y2,hy2,HC2⟩:=HCT.out wr lf hB.out;have HC2:=hidden HC2;clear HCT H1 H2;cases b with
      | true=>
        go_wp2_with (first
          |(go_at_call 72;refine HC2.out.mono ?_;rintro e w' ⟨rfl,hx⟩;rw [hx];clear hx w'))
        go_ret;exact ⟨rfl,hB.out⟩
      | false=>
        go_wp2_with fail
        go_ret;exact ⟨rfl,hB.out⟩

theorem dholdAll_any (h:Hs w S w g gs room cs fr) (a:Option Addr) (n c:Nat) (ss:List Nat) (hI:Kq S w (fun w'=>Ints9 w' a ss)) (hn:n=ss.length) (h257:n≤257) (hv:∀x∈ss,x=0∨0<cc cs (x-1)) (hc:0<n→∀i,cc cs i+n<1073741824):Kc 165 #[.pointer (some ⟨g,0,none⟩),.slice a n c] w fun e w'=>e=.returned (.slice none 0 0)∧Hs w S w' g gs room (holdM cs ss) fr:=by
  have HST:Hid (∀wr k,k<n→Hs w S wr g gs room (holdM cs (ss.take k)) fr→∃lb x,a=some ⟨lb,0,none⟩∧wr.cell? ⟨lb,k,none⟩=some (.int .i64 x)∧∃q:Int,¬q=4∧Kc 96 #[.pointer (some ⟨g,0,none⟩),.int .i64 x] wr fun e w'=>e=.returned (.int .i64 q)∧Hs w S w' g gs room (holdM cs (ss.take (k+1))) fr):=fun wr k hk hh=>by
    obtain ⟨lb,e1,e2⟩:=hh.kq hI k (by omega);refine ⟨lb,_,e1,e2,?_⟩;rw [holdM_take cs ss k (by omega)];have hm:=hm_ok h.2 k (ss.take k) (by rw [List.length_take];omega) (fun x hx=>hv x (List.mem_of_mem_take hx));have hmem:ss.getD k 0∈ss:=by rw [List.getD_eq_getElem?_getD,List.getElem?_eq_getElem (by omega)];exact List.getElem_mem _
    by_cases h0:ss.getD k 0=0
    · rw [if_pos h0,h0]
      exact ⟨7,by omega,hs_hold_bad hh 0 rfl⟩
    · rw [if_neg h0]
      have hcp:=(hv _ hmem).resolve_left h0;have hx:=hs_hold hh (ss.getD k 0-1) (by rw [hm.cc];omega) (by
        rw [hm.cc];have h1:=hc (by omega) (ss.getD k 0-1);have h2:=List.count_le_length (a:=ss.getD k 0-1+1) (l:=ss.take k);rw [List.length_take] at h2;omega)
      rw [show (((ss.getD k 0-1:Nat):Int)+1)=((ss.getD k 0:Nat):Int) by omega] at hx;exact ⟨0,by omega,hx⟩
  have HTK:Hid (ss.take n=ss):=List.take_of_length_le (by omega);have HH0:Hid (Hs w S w g gs room (holdM cs (ss.take 0)) fr):=h;have HM:=hidden h257;clear h hI hn h257 hv hc;go_enter Tryz.func165,Tryz.ntmps165
  go_wp2_with fail
  go_loopw [4,9] (fun lv iv wr=>∃(k:Nat),k≤n∧lv=.slice none 0 0∧iv=.int .i64 (k:Int)∧Hid (Hs w S wr g gs room (holdM cs (ss.take k)) fr)) (fun _ iv _=>n-(intOf iv).toNat)
  case atStart=>exact ⟨0,by omega,rfl,rfl,HH0.out⟩
  case round=>
    clear HH0;obtain ⟨k,hk,rfl,rfl,HH⟩:=hrel
    by_cases hlt:k<n
    · obtain ⟨lb,x,rfl,hcl,q,hq,hcall⟩:=HST.out wr k hlt HH.out
      have HC:=hidden hcall;have k0:(0:Int)≤(k:Int):=by omega
      have k1:(k:Int)<(n:Int):=by omega
      have hk257:k<257:=by have:=HM.out;omega
      have hwk:wrap64 ((k:Int)+1)=((k+1:Nat):Int):=by rw [Go.IntWalk.wrap64_in _ (by omega)];rfl
      clear hcall hk
      go_wp2_with (first
        |(go_at_call 96;refine HC.out.mono ?_;rintro e w2 ⟨rfl,hs2⟩;have HS2:=hidden hs2;clear hs2))
      exact ⟨⟨k+1,by omega,rfl,by go_num,HS2.out⟩,by simp [intOf];exact mea_step k1⟩
    · obtain rfl:k=n:=by omega
      have nlt: ¬(k:Int)<(k:Int):=by omega
      rw [HTK.out] at HH
      go_wp2_with fail
      go_ret;exact ⟨rfl,HH.out⟩

end Go.Proofs.YtdjpigfibafokaaGreatDoor
