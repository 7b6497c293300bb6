/- A captured list of numbers; plan.shared, batch.holdAll and batch.countable, as contracts. -/
import Derived.Test.YtabiglnmfdpcfaaGreatDoorBz01
import Derived.Test.YtabiglnmfdpcfaaGreatDoorBz21
import Derived.Test.YtabiglnmfdpcfaaGreatDoorBz23
import Derived.Test.YtabiglnmfdpcfaaGreatDoorBz24
import Derived.Test.YtabiglnmfdpcfaaGreatDoorBz11
import Derived.Test.YtabiglnmfdpcfaaGreatDoorBz13
import Derived.Test.YtabiglnmfdpcfaaGreatDoorBz14
import Derived.Test.YtabiglnmfdpcfaaGreatDoorBz12
import Derived.Deep.RegionHeld2
namespace Go.Proofs.YtabiglnmfdpcfaaGreatDoor
variable {S fr l:List Nat}
variable {b bp g gs m o room:Nat}
variable {cs:Lz}
variable {lv sv v v':Value}
variable {w w' w1 w4 wa:World}
set_option maxHeartbeats 4000000
set_option maxRecDepth 20000
open Go.RowKit

structure IL (m:Nat) (w:World) (b:Nat) (v:Value) (l:List Nat):Prop where
  blk:Blk w b 53 #[v]
  lst:w.ownsRow m 3 1 v l.length (nats l)
  lb:m≤b

theorem IL.grow (h:IL m w b v l) (hb:Kb w w'):IL m w' b v l:=⟨h.blk.grow hb,owR_grow h.lst hb,h.lb⟩
theorem IL.cell (h:IL m w b v l):w.cell? ⟨b,0,none⟩=some v:=by
  rw [h.blk.cell];rfl
theorem IL.ne (h:IL m w b v l) {g:Nat} {t:TypeId} {cs:Array Value} (hB:Blk w g t cs) (h1:53≠t) (h2:3≠t):g ∉ b::v.ownBlock.toList:=fun q=>by
  rcases List.mem_cons.1 q with q | q
  · exact h.blk.ne hB h1 q.symm
  · exact lst_blk_ne (owR_lst h.lst) hB h2 (by simpa using q)
theorem IL.mod (h:IL m w b v l) (md:Mod S w w') (h1:b ∉ S) (h2:∀g,v.ownBlock=some g→g ∉ S):IL m w' b v l:=⟨h.blk.mod md h1,owR_mod h.lst md h2,h.lb⟩
theorem IL.snoc (h:IL m w b v l) (hb:Kb w w1) (hg:w1.grownBy w4 v.ownBlock) (x:Nat) (ho:w4.ownsRow m 3 1 v' (l.length+1) (nats l++[Value.int .i64 (x:Int)])):IL m (w4.setCell ⟨b,0,none⟩ v') b v' (l++[x])∧Mod (b::v.ownBlock.toList) w (w4.setCell ⟨b,0,none⟩ v')∧w4.cell? ⟨b,0,none⟩=some v∧w4.frozen? ⟨b,0,none⟩=false:=by
  have h1:=h.grow hb;have md:Mod v.ownBlock.toList w1 w4:=Mod.of_grown hg (fun k hk=>by simp [hk]);have hn:b ∉ v.ownBlock.toList:=fun q=>lst_blk_ne (owR_lst h1.lst) h1.blk (by decide) (by simpa using q)
  have B4:Blk w4 b 53 #[v]:=h1.blk.mod md hn;have m5:Mod [b] w4 (w4.setCell ⟨b,0,none⟩ v'):=Mod.setCell _ _ _ _ (by simp);have ln:=lst_blk_ne (owR_lst ho) B4 (by decide);refine ⟨⟨?_,?_,h.lb⟩,((Mod.of_below hb _).trans' (md.mono fun k hk=>List.mem_cons_of_mem _ hk)).trans' (m5.mono fun k hk=>by simp at hk;subst hk;exact List.mem_cons_self ..),by rw [B4.cell];rfl,B4.frozen 0⟩
  · have:=B4.set 0 v'
    simpa using this
  · rw [List.length_append,List.length_singleton,nats,List.map_append]
    exact owR_mod ho m5 (fun g hg e=>ln (by have e':g=b:=(by simpa using e);rw [← e'];exact hg))

def IlPost (m:Nat) (w:World) (b:Nat) (v:Value) (l:List Nat) (e:Ending) (w':World):Prop:=e=.returned (.tuple #[])∧∃v',IL m w' b v' l∧Mod (b::v.ownBlock.toList) w w'

theorem keep11_any (h:IL m w b v l) (hm:m≤w.heap.size) (p:Int) (hl:l.length≤1000000):Kc 92 #[.int .i64 p,.pointer (some ⟨b,0,none⟩)] w (IlPost m w b v (l++posP p)):=by
  by_cases hp:0<p
  · have e:posP p=[p.toNat]:=by unfold posP;rw [if_pos hp]
    have ep:(p.toNat:Int)=p:=by omega
    have c0:=h.cell;have HPost:Hid (∀w' v',IL m w' b v' (l++[p.toNat])→Mod (b::v.ownBlock.toList) w w'→IlPost m w b v (l++posP p) (.returned (.tuple #[])) w'):=fun w' v' q1 q2=>⟨rfl,v',by rw [e];exact q1,q2⟩
    have HO:=hidden (owR_grow h.lst (grow_alloc w (.cells #[.int .i64 p] 3)));have HS:Hid (∀v4 w4,w4.ownsRow m 3 1 v4 (l.length+1) (nats l++[Value.int .i64 p])→(w.alloc (.cells #[.int .i64 p] 3)).grownBy w4 v.ownBlock→IL m (w4.setCell ⟨b,0,none⟩ v4) b v4 (l++[p.toNat])∧Mod (b::v.ownBlock.toList) w (w4.setCell ⟨b,0,none⟩ v4)∧w4.cell? ⟨b,0,none⟩=some v∧w4.frozen? ⟨b,0,none⟩=false):=fun v4 w4 o4 g4=>by
      rw [← ep] at o4;exact h.snoc (grow_alloc w _) g4 p.toNat o4
    have HL:=hidden hl;have HM:=hidden hm;generalize IlPost m w b v (l++posP p)=PP at HPost ⊢;generalize l.length=q at *;clear h hl hm e ep;go_enter Tryz.func92,Tryz.ntmps92
    go_wp2_with (first
      |(at_builtin;refine wpList_appB _ rfl _ _ _ rfl m 3 1 8 Tryz.underlying53 info_nat (by omega) _ q (nats l) rfl HO.out w.heap.size [Value.int .i64 p] rfl (Blk.new _ _ _) rfl (by intro u hu;simp at hu;subst hu;rfl) (by have:=HL.out;simp only [maxLen];omega) (by have:=HL.out;omega) (Nat.le_trans HM.out (by simp)) ?_;intro a4 c4 w4 o4 g4;obtain ⟨s1,s2,f1,f2⟩:=HS.out _ _ o4 g4;have HS1:=hidden s1;have HS2:=hidden s2;clear o4 g4 s1 s2))
    first
      | exact HPost.out _ _ HS1.out HS2.out
      |(refine bodyPost_ret (results_none rfl _ _ _) rfl ?_;exact HPost.out _ _ HS1.out HS2.out)
  · have e:posP p=[]:=posP_neg (by omega)
    have HPost:Hid (IlPost m w b v (l++posP p) (.returned (.tuple #[])) w):=⟨rfl,v,by rw [e,List.append_nil];exact h,Mod.refl _ _⟩;generalize IlPost m w b v (l++posP p)=PP at HPost ⊢;clear h hl e;go_enter Tryz.func92,Tryz.ntmps92
    go_wp2_with fail
    first
      | exact HPost.out
      |(refine bodyPost_ret (results_none rfl _ _ _) rfl ?_;exact HPost.out)

theorem zero_pl:∀w,(zeroValue 139).run Tryz.prog w=.ok (.agg (zPl 0 (encW wtZ) 0 0 0).toArray) w:=zero_of_info (n:=38) (by kernel_rfl) |>.1

theorem encPl_at {n:Pn} (hn:WtOk n.w) (h:w.rangeAt g o (encPl n)):w.cell? ⟨g,o,none⟩=some (.int .u8 (if n.inn then 2 else 1))∧w.rangeAt g (o+1) (encW n.w)∧w.cell? ⟨g,o+35,none⟩=some (.int .i64 (n.dp:Int))∧w.cell? ⟨g,o+36,none⟩=some (.int .i64 n.l)∧w.cell? ⟨g,o+37,none⟩=some (.int .i64 n.r):=by
  have hl:=hn.len;refine ⟨h 0 _ rfl,fun j u hu=>?_,?_,?_,?_⟩
  · have hj:=(List.getElem?_eq_some_iff.1 hu).1
    rw [show o+1+j=o+(j+1) by omega];refine h (j+1) u ?_;unfold encPl;rw [List.getElem?_cons_succ,List.getElem?_append_left hj];exact hu
  · refine h 35 _ ?_
    unfold encPl;rw [List.getElem?_cons_succ,List.getElem?_append_right (by omega),hl];rfl
  · refine h 36 _ ?_
    unfold encPl;rw [List.getElem?_cons_succ,List.getElem?_append_right (by omega),hl];rfl
  · refine h 37 _ ?_
    unfold encPl;rw [List.getElem?_cons_succ,List.getElem?_append_right (by omega),hl];rfl

structure PlR (w:World) (bp:Nat) (sv:Value) (ps:List Pn) (lv:Value):Prop where
  blk:Blk w bp 82 #[sv,lv]
  lst:Lst w 139 38 lv ps.length (flatE encPl ps)
  ok:∀n∈ps,WtOk n.w
theorem PlM.pr {ps:List Pn} (h:PlM wa w bp sv ps lv):PlR w bp sv ps lv:=⟨h.blk,owR_lst h.lst,h.ok⟩
theorem PlR.mod {ps:List Pn} (h:PlR w bp sv ps lv) (m:Mod S w w') (h1:bp ∉ S) (h2:∀g,lv.ownBlock=some g→g ∉ S):PlR w' bp sv ps lv:=⟨h.blk.mod m h1,lst_mod h.lst m h2,h.ok⟩
theorem PlR.grow {ps:List Pn} (h:PlR w bp sv ps lv) (hb:Kb w w'):PlR w' bp sv ps lv:=h.mod (Mod.of_below hb []) (fun q=>by cases q) (fun _ _ q=>by cases q)
theorem PlR.cells {ps:List Pn} (h:PlR w bp sv ps lv):w.cell? ⟨bp,0,none⟩=some sv∧w.cell? ⟨bp,1,none⟩=some lv:=by
  rw [h.blk.cell,h.blk.cell];exact ⟨rfl,rfl⟩
theorem PlR.at {ps:List Pn} (h:PlR w bp sv ps lv) {i:Nat} (hi:i<ps.length):∃g c,lv=.slice (some ⟨g,0,none⟩) ps.length c∧w.rangeAt g (i * 38) (encPl ps[i]):=by
  obtain ⟨g,c,rfl,_⟩:=lst_pos h.lst (by omega);exact ⟨g,c,rfl,(lstE_range h.lst rfl (fun x hx=>encPl_len (h.ok x hx)) i hi).1⟩

theorem shN_take (ps:List Pn) {k:Nat} (h:k<ps.length):(ps.take (k+1)).flatMap shPn=(ps.take k).flatMap shPn++posP ps[k].l++posP ps[k].r:=by
  rw [List.take_add_one,List.getElem?_eq_getElem h,List.flatMap_append];simp [shPn]
theorem shN_len:∀(ps:List Pn),(ps.flatMap shPn).length≤2 * ps.length
  | []=>by simp
  | n::r=>by
    have:=shN_len r;have p1:∀q,(posP q).length≤1:=fun q=>by unfold posP;split <;> simp
    have:=p1 n.l;have:=p1 n.r;rw [List.flatMap_cons,List.length_append,List.length_cons];simp only [shPn,List.length_append];omega

def BshPost (w:World) (l:List Nat) (e:Ending) (w':World):Prop:=∃a c,e=.returned (.slice a l.length c)∧w'.ownsRow w.heap.size 3 1 (.slice a l.length c) l.length (nats l)∧Kb w w'

theorem shared11_any {ps:List Pn} (P:PlR w bp sv ps lv) (top:Int) (h6:ps.length≤65536):Kc 42 #[.pointer (some ⟨bp,0,none⟩),.int .i64 top] w (BshPost w (shL ps top)):=by
  have HPost:Hid (∀w' v b,IL w.heap.size w' b v (shL ps top)→Kb w w'→BshPost w (shL ps top) (.returned v) w'):=fun w' v b h1 h2=>by
    obtain ⟨a,c,rfl⟩:=lst_slice (owR_lst h1.lst);exact ⟨a,c,rfl,h1.lst,h2⟩
  obtain ⟨la,lc,rfl⟩:=lst_slice P.lst;obtain ⟨nn,hnn⟩:∃q,q=ps.length:=⟨_,rfl⟩;have c1:=P.cells.2;have HAt:Hid (∀w' k,Kb w w'→k<nn→∃(gl:Nat) (n:Pn),la=some ⟨gl,0,none⟩∧WtOk n.w∧w'.rangeAt gl (k * 38) (encPl n)∧(ps.take (k+1)).flatMap shPn=(ps.take k).flatMap shPn++posP n.l++posP n.r):=fun w' k hb hk=>by
    rw [hnn] at hk;obtain ⟨gl,c,e,hr⟩:=(P.grow hb).at hk;injection e with e1 _ _;exact ⟨gl,ps[k],e1,P.ok _ (List.getElem_mem hk),hr,shN_take ps hk⟩
  have HLen:Hid (∀k,((ps.take k).flatMap shPn).length≤200000):=fun k=>by
    have h1:=shN_len (ps.take k);rw [List.length_take] at h1;omega
  have HKC:Hid (∀w' b v l p,IL w.heap.size w' b v l→w.heap.size≤w'.heap.size→l.length≤1000000→Kc 92 #[.int .i64 p,.pointer (some ⟨b,0,none⟩)] w' (IlPost w.heap.size w' b v (l++posP p))):=fun w' b v l p hi hm hl=>keep11_any hi hm p hl
  have HEnd:Hid ((ps.take nn).flatMap shPn++posP top=shL ps top):=by rw [hnn,List.take_length];rfl
  have HN:Hid (nn≤65536):=by rw [hnn];exact h6
  have HSZ:Hid (∀n:Pn,WtOk n.w→(Tryz.prog.info? 139).map (·.size)=some (encPl n).length):=fun n hn=>by rw [encPl_len hn];exact size_pl
  have HZ:Hid (∀n:Pn,WtOk n.w→(zPl 0 (encW wtZ) 0 0 0).toArray.size=(encPl n).toArray.size):=fun n hn=>by rw [List.size_toArray,List.size_toArray,zPl_len _ _ _ _ _ wtZ_ok.len,encPl_len hn]
  generalize BshPost w (shL ps top)=PP at HPost ⊢;rw [← hnn] at c1;have c1a:=below_cell (grow_alloc w (.cells #[.slice none 0 0] 53)) c1;clear P h6 hnn c1;go_enter Tryz.func42,Tryz.ntmps42
  go_wp2_with fail
  have HI0:Hid (IL w.heap.size (w.alloc (.cells #[.slice none 0 0] 53)) w.heap.size (.slice none 0 0) []):=⟨Blk.new w _ _,World.ownsRow_nil _ _ _ _,Nat.le_refl _⟩;have HB0:Hid (Kb w (w.alloc (.cells #[.slice none 0 0] 53))):=grow_alloc w _;have HIn:Hid (∃v,IL w.heap.size (w.alloc (.cells #[.slice none 0 0] 53)) w.heap.size v ((ps.take 0).flatMap shPn)):=⟨_,HI0.out⟩;generalize hw1:w.alloc (.cells #[.slice none 0 0] 53)=w1 at *;clear hw1 HI0
  go_loopw [15] (fun iv wr=>∃(k:Nat),k≤nn∧iv=.int .i64 (k:Int)∧Hid (∃v,IL w.heap.size wr w.heap.size v ((ps.take k).flatMap shPn))∧Hid (Kb w wr)) (fun iv _=>nn-(intOf iv).toNat)
  case atStart=>exact ⟨0,by omega,rfl,HIn.out,HB0.out⟩
  case round=>
    clear HIn HB0;obtain ⟨k,hk,rfl,HI,HB⟩:=hrel
    by_cases hlt:k<nn
    · obtain ⟨v5,hi5⟩:=HI.out
      have HI5:=hidden hi5;obtain ⟨gl,n,rfl,hok,hr,htk⟩:=HAt.out wr k HB.out hlt;have HR:=hidden hr;have HOK:=hidden hok;have HTK:=hidden htk;have HLN:=hidden (HLen.out k);have HSZn:=hidden (HSZ.out n hok);have HZn:=hidden (HZ.out n hok);have k0:(0:Int)≤(k:Int):=by omega
      have k1:(k:Int)<(nn:Int):=by omega
      have hk6:k<65536:=by have:=HN.out;omega
      have hwk:wrap64 ((k:Int)+1)=((k+1:Nat):Int):=by rw [Go.IntWalk.wrap64_in _ (by omega)];rfl
      have H36:Hid (∀(w':World) (b:Nat),Blk w' b 139 (encPl n).toArray→w'.cell? ⟨b,36,none⟩=some (.int .i64 n.l)∧w'.cell? ⟨b,37,none⟩=some (.int .i64 n.r)):=fun w' b hb=>by
        obtain ⟨_,_,_,q1,q2⟩:=encPl_at (g:=b) (o:=0) HOK.out (by have:=hb.range;simpa using this);exact ⟨by simpa using q1,by simpa using q2⟩
      have H1C:Hid ((encPl n).toArray.all (·.oneCell')=true):=all_oneCell_toArray (encPl_one hok);have HSA:Hid ((Tryz.prog.info? 139).map (·.size)=some (encPl n).toArray.size):=by rw [List.size_toArray];exact HSZn.out
      generalize hx:encPl n=X at HR HSZn HZn H36 H1C HSA;generalize n.l=nl at HTK H36;generalize n.r=nr at HTK H36;generalize (ps.take k).flatMap shPn=acc at HI5 HTK HLN;clear hi5 hok hr htk hx HSZ HZ HOK hk HI
      go_wp2_with (first
        |((with_reducible refine at_ldd 18 17 ?_);refine wpList_ldw _ rfl _ _ rfl gl (k * 38) rfl X _ HR.out Tryz.underlying139 rfl HSZn.out ?_)
        |((with_reducible refine at_ald 8 ?_);refine wpList_al _ rfl _ rfl _ zero_pl ?_;intro w2 b8 hg8 hl8 B8 q8;have HG8:=hidden hg8;have HQ8:=hidden q8;clear hg8 hl8)
        |((with_reducible refine at_st 8 ?_);refine wpList_sto _ rfl _ _ _ rfl b8 _ X.toArray rfl rfl B8 HSA.out HZn.out H1C.out ?_;intro w3 B83 r3;have HB83:=hidden B83;have HQ3:=hidden (below_row HQ8.out r3 HG8.out);obtain ⟨c36,c37⟩:=H36.out _ _ B83;have HI3:=hidden (HI5.out.grow HQ3.out);clear B8 q8 B83 r3 HI5 HR)
        |(go_at_call 92;have mk:=mk1;clear mk;refine (HKC.out _ _ _ _ _ HI4.out (grow_trans HB.out HQ3.out |>.size |> fun q=>Nat.le_trans q HM4.out.size) (by have:=HLN.out;rw [List.length_append];have:(posP nl).length≤1:=(by unfold posP;split <;> simp);omega)).mono ?_;rintro e w5 ⟨rfl,v6,i6,m6⟩;have HI6:=hidden i6;have HM6:=hidden (HI4.out.ne HB84.out (by decide) (by decide));have HMM:=hidden m6;clear i6 m6)
        |(go_at_call 92;refine (HKC.out _ _ _ _ _ HI3.out (grow_trans HB.out HQ3.out).size (by have:=HLN.out;omega)).mono ?_;rintro e w4 ⟨rfl,v4,i4,m4⟩;have mk1:Hid True:=trivial;have HI4:=hidden i4;have HM4:=hidden m4;have HB84:=hidden (HB83.out.mod m4 (HI3.out.ne HB83.out (by decide) (by decide)));obtain ⟨d36,d37⟩:=H36.out _ _ HB84.out;clear i4 m4 c36 c37))
      have hfin:Kb w w5:=by
        have h1:=grow_trans HB.out HQ3.out;have o3:∀q∈w.heap.size::v5.ownBlock.toList,w.heap.size≤q:=fun q hq=>by
          rcases List.mem_cons.1 hq with e | e
          · rw [e];exact HI3.out.lb
          · exact (HI3.out.lst.lt q (by simpa using e)).1
        have o4:∀q∈w.heap.size::v4.ownBlock.toList,w.heap.size≤q:=fun q hq=>by
          rcases List.mem_cons.1 hq with e | e
          · rw [e];exact HI4.out.lb
          · exact (HI4.out.lst.lt q (by simpa using e)).1
        have h2:=h1.trans (HM4.out.below o3 h1.size);exact h2.trans (HMM.out.below o4 h2.size)
      have hI6:=HI6.out;rw [← HTK.out] at hI6;exact ⟨⟨k+1,by omega,by go_num,⟨_,hI6⟩,hfin⟩,by simp [intOf];exact mea_step k1⟩
    · obtain rfl:k=nn:=by omega
      have nlt: ¬(k:Int)<(k:Int):=by omega
      obtain ⟨v5,hi5⟩:=HI.out;have HI5:=hidden hi5;have HLN:=hidden (HLen.out k);have HE:=HEnd.out;generalize (ps.take k).flatMap shPn=acc at HI5 HLN HE;clear hi5 HI HAt HLen HSZ HZ hk hlt
      go_wp2_with (go_at_call 92;refine (HKC.out _ _ _ _ _ HI5.out HB.out.size (by have:=HLN.out;omega)).mono ?_;rintro e w4 ⟨rfl,v4,i4,m4⟩;have HI4:=hidden i4;have HM4:=hidden m4;have c4:=i4.cell;clear i4 m4)
      have hfin:Kb w w4:=by
        have o3:∀q∈w.heap.size::v5.ownBlock.toList,w.heap.size≤q:=fun q hq=>by
          rcases List.mem_cons.1 hq with e | e
          · rw [e];exact HI5.out.lb
          · exact (HI5.out.lst.lt q (by simpa using e)).1
        exact HB.out.trans (HM4.out.below o3 HB.out.size)
      have hI4:=HI4.out;rw [HE] at hI4;exact HPost.out _ _ _ hI4 hfin
end Go.Proofs.YtabiglnmfdpcfaaGreatDoor

namespace Go.Proofs.YtabiglnmfdpcfaaGreatDoor
variable {S fr l:List Nat}
variable {b bp g gs m o room:Nat}
variable {cs:Lz}
variable {lv sv v v':Value}
variable {w w' w1 w4 wa:World}
set_option maxHeartbeats 4000000
set_option maxRecDepth 20000
open Go.RowKit

section
variable {w w1 w2:World} {S:List Nat} {g gs room:Nat} {cs:Lz} {fr:List Nat}
theorem Hs.rebase (h:Hs w S w g gs room cs fr) (hb:Kb w w1):Hs w1 S w1 g gs room cs fr:=by
  obtain ⟨⟨vp,vf,s,m,n⟩,W⟩:=h;refine ⟨⟨vp,vf,s.grow hb,Mod.refl _ _,fun k hk=>?_⟩,W⟩;rcases n k hk with q | q
  · exact .inl q
  · have:=s.lts k hk
    omega
end

def RaPost (w:World) (S:List Nat) (g gs room:Nat) (cs0 cs1:Lz) (fr:List Nat) (E:List Ent) (K bs:Lq) (ss:List Nat) (e:Ending) (w':World):Prop:=
  ∃(top:Nat) (v':Value) (cs2:Lz) (fr2:List Nat),e=.returned (.int .i64 (top:Int))∧CeOk (lfC (lfD K (vaD bs)) K v' bs)∧Rz K ss (tkC cs1 fr (1,lfC (lfD K (vaD bs)) K v' bs)) fr.dropLast (tkH cs1 fr) cs2 fr2 top∧RzI cs0 E K bs ss 0 cs2 top∧Hs w S w' g gs room cs2 fr2

end Go.Proofs.YtabiglnmfdpcfaaGreatDoor

namespace Go.Proofs.YtabiglnmfdpcfaaGreatDoor
variable {S fr l:List Nat}
variable {b bp g gs m o room:Nat}
variable {cs:Lz}
variable {lv sv v v':Value}
variable {w w' w1 w4 wa:World}
set_option maxHeartbeats 4000000
set_option maxRecDepth 20000
open Go.RowKit

theorem bholdAll_any (h:Hs w S w g gs room cs fr) (a:Option Addr) (n c:Nat) (ss:List Nat) (hI:Kq S w (fun w'=>Ints9 w' a ss)) (hn:n=ss.length) (h257:n≤200000) (hv:∀x∈ss,x=0∨0<cc cs (x-1)) (hc:0<n→∀i,cc cs i+n<1073741824):Kc 44 #[.pointer (some ⟨g,0,none⟩),.slice a n c] w fun e w'=>e=.returned (.slice none 0 0)∧Hs w S w' g gs room (holdM cs ss) fr:=by
  have HST:Hid (∀wr k,k<n→Hs w S wr g gs room (holdM cs (ss.take k)) fr→∃lb x,a=some ⟨lb,0,none⟩∧wr.cell? ⟨lb,k,none⟩=some (.int .i64 x)∧∃q:Int,¬q=4∧Kc 9 #[.pointer (some ⟨g,0,none⟩),.int .i64 x] wr fun e w'=>e=.returned (.int .i64 q)∧Hs w S w' g gs room (holdM cs (ss.take (k+1))) fr):=fun wr k hk hh=>by
    obtain ⟨lb,e1,e2⟩:=hh.kq hI k (by omega);refine ⟨lb,_,e1,e2,?_⟩;rw [holdM_take cs ss k (by omega)];have hm:=hm_ok h.2 k (ss.take k) (by rw [List.length_take];omega) (fun x hx=>hv x (List.mem_of_mem_take hx));have hmem:ss.getD k 0∈ss:=by rw [List.getD_eq_getElem?_getD,List.getElem?_eq_getElem (by omega)];exact List.getElem_mem _
    by_cases h0:ss.getD k 0=0
    · rw [if_pos h0,h0]
      exact ⟨7,by omega,hs_hold_bad hh 0 rfl⟩
    · rw [if_neg h0]
      have hcp:=(hv _ hmem).resolve_left h0;have hx:=hs_hold hh (ss.getD k 0-1) (by rw [hm.cc];omega) (by
        rw [hm.cc];have h1:=hc (by omega) (ss.getD k 0-1);have h2:=List.count_le_length (a:=ss.getD k 0-1+1) (l:=ss.take k);rw [List.length_take] at h2;omega)
      rw [show (((ss.getD k 0-1:Nat):Int)+1)=((ss.getD k 0:Nat):Int) by omega] at hx;exact ⟨0,by omega,hx⟩
  have HTK:Hid (ss.take n=ss):=List.take_of_length_le (by omega);have HH0:Hid (Hs w S w g gs room (holdM cs (ss.take 0)) fr):=h;have HM:=hidden h257;clear h hI hn h257 hv hc;go_enter Tryz.func44,Tryz.ntmps44
  go_wp2_with fail
  go_loopw [4,9] (fun lv iv wr=>∃(k:Nat),k≤n∧lv=.slice none 0 0∧iv=.int .i64 (k:Int)∧Hid (Hs w S wr g gs room (holdM cs (ss.take k)) fr)) (fun _ iv _=>n-(intOf iv).toNat)
  case atStart=>exact ⟨0,by omega,rfl,rfl,HH0.out⟩
  case round=>
    clear HH0;obtain ⟨k,hk,rfl,rfl,HH⟩:=hrel
    by_cases hlt:k<n
    · obtain ⟨lb,x,rfl,hcl,q,hq,hcall⟩:=HST.out wr k hlt HH.out
      have HC:=hidden hcall;have k0:(0:Int)≤(k:Int):=by omega
      have k1:(k:Int)<(n:Int):=by omega
      have hk257:k<200000:=by have:=HM.out;omega
      have hwk:wrap64 ((k:Int)+1)=((k+1:Nat):Int):=by rw [Go.IntWalk.wrap64_in _ (by omega)];rfl
      clear hcall hk
      go_wp2_with (first
        |(go_at_call 9;refine HC.out.mono ?_;rintro e w2 ⟨rfl,hs2⟩;have HS2:=hidden hs2;clear hs2))
      exact ⟨⟨k+1,by omega,rfl,by go_num,HS2.out⟩,by simp [intOf];exact mea_step k1⟩
    · obtain rfl:k=n:=by omega
      have nlt: ¬(k:Int)<(k:Int):=by omega
      rw [HTK.out] at HH
      go_wp2_with fail
      go_ret;exact ⟨rfl,HH.out⟩

theorem bholdAll_nil (v:Value) (w:World):Kc 44 #[v,.slice none 0 0] w fun e w'=>e=.returned (.slice none 0 0)∧w'=w:=by
  go_enter Tryz.func44,Tryz.ntmps44
  go_wp2_with fail
  go_loopw [4,9] (fun lv iv wr=>lv=.slice none 0 0∧iv=.int .i64 0∧wr=w) (fun _ _ _=>0)
  case atStart=>exact ⟨rfl,rfl,rfl⟩
  case round=>
    obtain ⟨rfl,rfl,rfl⟩:=hrel
    go_wp2_with fail
    go_ret;exact ⟨rfl,rfl⟩

theorem bcountable_any {ct:Int→Nat} {ca:Int→Ce} (V:Vw w v true ct ca) (hct:∀q,ct q<1073741824) (root:Int) (a:Option Addr) (n c:Nat) (l:List Nat) (h:Ints9 w a l) (e:n=l.length) (m:n≤200000):Kc 43 #[v,.int .i64 root,.slice a n c] w fun e w'=>e=.returned (.bool true)∧Kb w w':=by
  have HCT:Hid (∀w' (q:Int),Kb w w'→∃n:Int,n<1073741824∧Kc 55 #[v,.int .i64 q] w' fun e w''=>e=.returned (.int .i64 n)∧w''=w'):=fun w' q hb=>⟨(ct q:Int),by have:=hct q;omega,V.count w' q hb⟩
  have H1:Hid (∀w' k,Kb w w'→k<n→∃g,a=some ⟨g,0,none⟩∧∃x:Int,w'.cell? ⟨g,k,none⟩=some (.int .i64 x)):=fun w' k hb hk=>by
    obtain ⟨g,q1,q2⟩:=h.grow hb k (by omega);exact ⟨g,q1,_,q2⟩
  have HM:=hidden m;clear V hct h e m;go_enter Tryz.func43,Tryz.ntmps43
  go_wp2_with fail
  go_loopw [11] (fun iv wr=>∃(k:Nat),k≤n∧iv=.int .i64 (k:Int)∧Hid (Kb w wr)) (fun iv _=>n-(intOf iv).toNat)
  case atStart=>exact ⟨0,by omega,rfl,Below.refl _ _⟩
  case round=>
    obtain ⟨k,hk,rfl,hB⟩:=hrel
    by_cases hlt:k<n
    · obtain ⟨g,rfl,x,hc⟩:=H1.out wr k hB.out hlt
      obtain ⟨y,hy,HC⟩:=HCT.out wr x hB.out;have HC:=hidden HC;have k0:(0:Int)≤(k:Int):=by omega
      have k1:(k:Int)<(n:Int):=by omega
      have hk2:k<200000:=by have:=HM.out;omega
      have hwk:wrap64 ((k:Int)+1)=((k+1:Nat):Int):=by rw [Go.IntWalk.wrap64_in _ (by omega)];rfl
      have y1: ¬y=1073741824:=by omega
      have y2:(y == 1073741824)=false:=beq_eq_false_iff_ne.2 y1;clear hy hk
      go_wp2_with (go_at_call 55;refine HC.out.mono ?_;rintro e w' ⟨rfl,hx⟩;rw [hx];clear hx w')
      exact ⟨⟨k+1,by omega,by go_num,hB.out⟩,by simp [intOf];exact mea_step k1⟩
    · obtain rfl:k=n:=by omega
      have nlt: ¬(k:Int)<(k:Int):=by omega
      go_wp2_with fail
      go_ret;exact ⟨rfl,hB.out⟩

end Go.Proofs.YtabiglnmfdpcfaaGreatDoor

namespace Go.Proofs.YtabiglnmfdpcfaaGreatDoor
variable {S fr l:List Nat}
variable {b bp g gs m o room:Nat}
variable {cs:Lz}
variable {lv sv v v':Value}
variable {w w' w1 w4 wa:World}
set_option maxHeartbeats 4000000
set_option maxRecDepth 20000
open Go.RowKit

theorem equal_any (x y:Value) (xs ys:Lq) (w:World) (hx:Reads w x xs) (hy:Reads w y ys):
    Kc 112 #[x,y] w fun e w'=>e=.returned (.bool (decide (xs=ys)))∧w'=w:=by
  have c1:=conv_reads hx;have c2:=conv_reads hy;have HB:Hid (((strOfNums xs).toList == (strOfNums ys).toList)=decide (xs=ys)):=by
    obtain ⟨_,_,_,_,_,h1,_⟩:=hx;obtain ⟨_,_,_,_,_,h2,_⟩:=hy;exact str_beq xs ys h1 h2
  clear hx hy;go_enter Tryz.func112,Tryz.ntmps112
  go_wp2
  go_ret;exact ⟨by rw [← HB.out];rfl,rfl⟩

end Go.Proofs.YtabiglnmfdpcfaaGreatDoor
