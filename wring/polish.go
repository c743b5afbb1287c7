package wring

import "blockworks/api"

// polished returns a wring in which some faces are whole. It works on a copy of the blocks, as they are the caller's.
func polished(w api.Wring, faces set[face]) api.Wring {
	blocks := make([]api.WringBlock, len(w.Blocks))
	copy(blocks, w.Blocks)
	for b := range blocks {
		for side := range sides {
			if faces.has(faceOf(b, side)) {
				blocks[b].Faces[side].State = api.WringWhole
			}
		}
	}
	w.Blocks = blocks
	return w
}

// fewestToPolish returns the fewest faces to polish for a stack of all blocks that surely holds, and whether there are such.
func fewestToPolish(w api.Wring) (set[face], bool) {
	faces := sides * len(w.Blocks)
	suits := func(whole set[face]) bool { return surely(polished(w, whole)).stacks(allBlocks(w)) > 0 }
	// With a face more that is whole no stack holds less: if all of them are not enough, none are.
	if !suits(full[face](faces)) {
		return 0, false
	}
	return first(search[face]{faces, fewFirst(faces), suits})
}
